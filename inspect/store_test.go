package inspect

import (
	"slices"
	"strconv"
	"strings"
	"testing"

	"granary/api"
	"granary/disk"
	"granary/shelf"
)

// P22.2

// versionNames are what may stand behind a beginning, with the version that it says, or 0.
func versionNames() map[string]int {
	names := map[string]int{"1": 1, "7": 7, "9": 9, "10": 10, "99": 99, "100000": 100000, "999999": 999999}
	for _, no := range []string{"", "0", "00", "01", "007", "000001", "0999999", "1000000", "9999999", "4294967297", "18446744073709551617", "-", "-1", "--1", "1-", "1.", ".1", "1_", "_1", "1x", "x1", "x", "0x1", "1e3", "7.new", "1-1"} {
		names[no] = 0
	}
	return names
}

// three are the ways in which something may lie at a path.
func three(t *testing.T, d *disk.Disk, how int, path string) {
	t.Helper()
	switch how {
	case 0:
		put(t, d, path, "granary")
	case 1:
		put(t, d, path+"/", "")
	case 2:
		put(t, d, path+"/x", "granary")
	}
}

func TestVersionsNames(t *testing.T) {
	for name, version := range versionNames() {
		for how := range 3 {
			for _, begin := range []string{"trash-", "version-", "fetch-"} {
				path := "store/" + begin + name
				want := isNobodys(path)
				isDir := how > 0
				switch {
				case version == 0:
				case begin == "trash-":
					want = f(path, isLeft, 0, version, 0)
				case begin == "version-" && isDir:
					want = f(path, isBroken, api.ErrMissing, version, 0)
				case begin == "version-":
					want = f(path, isBroken, api.ErrKind, version, 0)
				case isDir:
					want = f(path, isPartial, api.ErrMissing, version, 0)
				}
				d := fresh(t)
				three(t, d, how, path)
				eastIs(t, path, d, want)
			}
		}
	}
}

func TestOtherNames(t *testing.T) {
	for _, name := range []string{"latest-", "latest.", "latest.new.", "latest.new2", "latest.ne", "latest1", "late", "version", "versio-1", "versions-1", "xversion-1", "version.1", "version_1", "fetch", "fetch1", "trash", "trash7", "job", "job.new", "build-1", "part-1", "gone-1", "store", "manifest", "meta", "7", strings.Repeat("x", 40)} {
		for how := range 3 {
			d := fresh(t)
			three(t, d, how, "store/"+name)
			eastIs(t, name, d, isNobodys("store/"+name))
		}
	}
}

// Of the root only the store is looked into.
func TestRootOfAStore(t *testing.T) {
	for _, name := range []string{"stor", "store-", "store-1", "store.", "store.new", "store0", "stores", "xstore", "latest", "latest.new", "version-7", "fetch-7", "trash-7", "job", "build-7", "manifest", strings.Repeat("x", 40)} {
		for how := range 3 {
			d := fresh(t)
			three(t, d, how, name)
			eastIs(t, name, d, isNobodys(name))
			put(t, d, "store/", "")
			eastIs(t, name+" beside a store", d, isNobodys(name))
		}
	}
	eastIs(t, "no store", laid(t))
	eastIs(t, "an empty store", laid(t, "store/"))
	for _, data := range []string{"", "x", pointer(t, 0, 0, 0, 0)} {
		eastIs(t, "a file", laid(t, "store="+data), f("store", isBroken, api.ErrKind, 0, 0))
	}
	// A store within a store, and versions in the root.
	eastIs(t, "deeper", laid(t, "store/store/latest", "store/x/version-1/", "x/store/latest"), isNobodys("store/store"), isNobodys("store/x"), isNobodys("x"))
}

func TestLeft(t *testing.T) {
	for how := range 3 {
		for _, name := range []string{"latest.new", "trash-1", "trash-999999"} {
			d := fresh(t)
			three(t, d, how, "store/"+name)
			version, _ := strconv.Atoi(strings.TrimPrefix(name, "trash-"))
			eastIs(t, name, d, f("store/"+name, isLeft, 0, version, 0))
		}
	}
	d := laid(t, "store/latest.new="+pointer(t, 7, 0, 1, 1), "store/trash-7/a/b/c/d/e/f=x")
	shelved(t, d, "store/trash-3", 3)
	eastIs(t, "deep", d, f("store/latest.new", isLeft, 0, 0, 0), f("store/trash-3", isLeft, 0, 3, 0), f("store/trash-7", isLeft, 0, 7, 0))
}

// pointed is a store with a pointer, and a whole version 7.
func pointed(t *testing.T, text string) *disk.Disk {
	t.Helper()
	d := laid(t, "store/latest="+text)
	shelved(t, d, "store/version-7", 7)
	return d
}

func seven(t *testing.T) api.Finding {
	t.Helper()
	return f("store/version-7", isGood, 0, 7, countOf(t, east(), 1, data(7)))
}

func TestPointers(t *testing.T) {
	for _, x := range []struct {
		cur, prev, epoch, seq int
		want                  api.Errno
	}{
		{0, 0, 0, 0, api.OK}, {0, 0, 3, 2, api.OK}, {0, 7, 3, 1, api.OK}, {0, 9, most, most, api.OK},
		{7, 0, 1, 1, api.OK}, {7, 7, 2, 2, api.OK}, {7, 9, most, 1, api.OK}, {7, last, 0, 0, api.OK},
		{8, 0, 1, 1, api.ErrCurrent}, {8, 7, 2, 1, api.ErrCurrent}, {1, 0, 1, 1, api.ErrCurrent}, {last, 7, 1, 1, api.ErrCurrent}, {70, 7, 1, 1, api.ErrCurrent},
	} {
		kind := isGood
		if x.want != api.OK {
			kind = isBroken
		}
		eastIs(t, "a pointer", pointed(t, pointer(t, x.cur, x.prev, x.epoch, x.seq)), f("store/latest", kind, x.want, x.cur, 0), seven(t))
	}
	// The version that it names lies under another name, or is something else.
	text := pointer(t, 7, 0, 1, 1)
	for name, want := range map[string]api.Finding{
		"trash-7":    f("store/trash-7", isLeft, 0, 7, 0),
		"version-07": isNobodys("store/version-07"),
		"version-8":  f("store/version-8", isBroken, api.ErrOther, 8, 0),
	} {
		d := pointed(t, text)
		done(t, d.Rename("store/version-7", "store/"+name))
		eastIs(t, name, d, f("store/latest", isBroken, api.ErrCurrent, 7, 0), want)
	}
	d := pointed(t, text)
	done(t, d.Rename("store/version-7", "store/fetch-7"))
	m, _ := sevenManifest(t)
	eastIs(t, "fetched, not admitted", d, f("store/fetch-7", isPartial, 0, 7, m.Total), f("store/latest", isBroken, api.ErrCurrent, 7, 0))
	for how := range 3 {
		d := laid(t, "store/latest="+text)
		three(t, d, how, "store/version-7")
		list, e := Store(d, east(), 1)
		is(t, "Store", e, api.OK)
		is(t, "latest", list[0], f("store/latest", isBroken, api.ErrCurrent, 7, 0))
		foretellsStore(t, "nothing whole", d, east(), 1)
	}
}

func TestNoPointers(t *testing.T) {
	good := pointer(t, 7, 6, 3, 1)
	no := []string{"", "x", "\n", good + "\n", good + "x", "\n" + good, good + good, strings.ToUpper(good), strings.Replace(good, "cur 7", "cur 07", 1), strings.Replace(good, "cur 7", "cur 0", 1), strings.Replace(good, "seq 1\n", "", 1), strings.Replace(good, "latest", "meta", 1)}
	for i := range good {
		no = append(no, good[:i], turned(good, i))
	}
	out := "granary latest 1\ncur 1000000\nprev 0\nepoch 1\nseq 1\n"
	no = append(no, sealed(out), sealed(strings.Replace(out, "1000000", "0", 1)+"seq 1\n"), sealed(strings.Replace(out, "cur 1000000\nprev 0\nepoch 1", "cur 0\nprev 0\nepoch 9007199254740993", 1)))
	for _, text := range no {
		eastIs(t, strconv.Quote(text), pointed(t, text), f("store/latest", isBroken, api.ErrPointer, 0, 0), seven(t))
	}
	for how := 1; how < 3; how++ {
		d := fresh(t)
		shelved(t, d, "store/version-7", 7)
		three(t, d, how, "store/latest")
		eastIs(t, "a directory", d, f("store/latest", isBroken, api.ErrPointer, 0, 0), seven(t))
	}
	d := fresh(t)
	shelved(t, d, "store/version-7", 7)
	put(t, d, "store/latest/latest", good)
	eastIs(t, "a directory with a pointer", d, f("store/latest", isBroken, api.ErrPointer, 0, 0), seven(t))
}

// spoilt holds what is found of a version that something was done to: current or not.
func spoilt(t *testing.T, what string, want api.Errno, spoil func(d *disk.Disk, dir string)) {
	t.Helper()
	d := pointed(t, pointer(t, 7, 0, 1, 1))
	spoil(d, "store/version-7")
	broke := f("store/version-7", isBroken, want, 7, 0)
	eastIs(t, what, d, f("store/latest", isBroken, api.ErrCurrent, 7, 0), broke)
	_, e := shelf.Open(d, "store/version-7", east(), 1, 7)
	is(t, what+": the shelf", e, want)
	d = pointed(t, pointer(t, 0, 0, 1, 1))
	shelved(t, d, "store/version-9", 9)
	spoil(d, "store/version-7")
	eastIs(t, what+", and it is not current", d, f("store/latest", isGood, 0, 0, 0), broke, f("store/version-9", isGood, 0, 9, countOf(t, east(), 1, data(9))))
}

func TestSpoiltVersions(t *testing.T) {
	files := filesOf(t, east(), 1, 7, data(7))
	is(t, "the files", len(files), 10)
	for _, x := range files {
		name := x.Key
		spoilt(t, name+" is away", api.ErrMissing, func(d *disk.Disk, dir string) { away(t, d, dir+"/"+name) })
		spoilt(t, name+" is a directory", api.ErrMissing, func(d *disk.Disk, dir string) {
			away(t, d, dir+"/"+name)
			put(t, d, dir+"/"+name+"/", "")
		})
		want := api.ErrDamage
		if name == "manifest" {
			want = api.ErrForm
		}
		spoilt(t, name+" is longer", want, func(d *disk.Disk, dir string) { done(t, d.Append(dir+"/"+name, "x")) })
		spoilt(t, name+" is empty", want, func(d *disk.Disk, dir string) {
			if rewrite(t, d, dir+"/"+name, ""); x.Value == "" {
				rewrite(t, d, dir+"/"+name, "x")
			}
		})
		for _, at := range []int{0, len(x.Value) / 2, len(x.Value) - 1} {
			if name == "manifest" && at > 0 || x.Value == "" {
				continue
			}
			spoilt(t, name+" is turned", want, func(d *disk.Disk, dir string) { turn(t, d, dir+"/"+name, at) })
		}
	}
	spoilt(t, "a sum is turned", api.ErrSum, func(d *disk.Disk, dir string) {
		text := bytesOf(t, d, dir+"/manifest")
		rewrite(t, d, dir+"/manifest", strings.Replace(text, "total "+strconv.Itoa(totalOf(t, text)), "total "+strconv.Itoa(totalOf(t, text)+1), 1))
	})
	for _, more := range []string{"x", "journal", "latest", "0_0_0.index", "x/"} {
		spoilt(t, more+" more", api.ErrExtra, func(d *disk.Disk, dir string) { put(t, d, dir+"/"+more, "") })
		spoilt(t, more+" more, and one away", api.ErrMissing, func(d *disk.Disk, dir string) {
			put(t, d, dir+"/"+more, "")
			away(t, d, dir+"/meta")
		})
	}
	other := func(files []api.Pair) func(d *disk.Disk, dir string) {
		return func(d *disk.Disk, dir string) {
			away(t, d, dir)
			lay(t, d, dir, files)
		}
	}
	spoilt(t, "another version", api.ErrOther, other(filesOf(t, east(), 1, 8, data(7))))
	west := east()
	west.Store = "west"
	spoilt(t, "another store", api.ErrOther, other(filesOf(t, west, 1, 7, data(7))))
	spoilt(t, "another node", api.ErrMissing, other(filesOf(t, east(), 0, 7, data(7))))
	wide := east()
	wide.Width = 2
	spoilt(t, "another width", api.ErrOther, other(filesOf(t, wide, 1, 7, data(7))))
}

func TestGoodVersions(t *testing.T) {
	d := fresh(t)
	var want []api.Finding
	for _, version := range []int{1, 10, 2, 999999} { // by rising names
		pairs := data(version)[:version%13]
		lay(t, d, "store/version-"+strconv.Itoa(version), filesOf(t, east(), 1, version, pairs))
		want = append(want, f("store/version-"+strconv.Itoa(version), isGood, 0, version, countOf(t, east(), 1, pairs)))
	}
	eastIs(t, "four versions", d, want...)
	put(t, d, "store/latest", pointer(t, 999999, 2, 5, 1))
	eastIs(t, "one is current", d, append([]api.Finding{f("store/latest", isGood, 0, 999999, 0)}, want...)...)
	// The same directories, looked at as those of other clusters.
	for _, change := range []func(c *api.Cluster){
		func(c *api.Cluster) { c.Store = "west" },
		func(c *api.Cluster) { c.Width = 2 },
		func(c *api.Cluster) { c.Chunks = 1 },
	} {
		c := east()
		change(&c)
		list, e := Store(d, c, 1)
		is(t, "Store", e, api.OK)
		is(t, "all broken", slices.ContainsFunc(list, func(x api.Finding) bool { return x.Kind != isBroken || x.Count != 0 }), false)
		foretellsStore(t, "of another cluster", d, c, 1)
	}
	// What a node does not go by may be another.
	c := east()
	c.Quota, c.Room, c.Retain, c.Home, c.Block = 1, 1, 8, 5, 1
	storeIs(t, "other settings", d, c, 1, append([]api.Finding{f("store/latest", isGood, 0, 999999, 0)}, want...)...)
}
