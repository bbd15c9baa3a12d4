package engine

import (
	"fmt"
	"slices"
	"strings"
	"testing"

	"granary/api"
	"granary/disk"
)

// P12.1

func TestDir(t *testing.T) {
	for v, digits := range map[int]string{1: "1", 7: "7", 10: "10", 123456: "123456", 999999: "999999"} {
		is(t, "Dir", Dir(v), "store/version-"+digits)
		is(t, "PartialDir", PartialDir(v), "store/fetch-"+digits)
	}
	for _, v := range []int{leastInt, -7, -1, 0, 1000000, mostInt} {
		is(t, fmt.Sprint("Dir of ", v), Dir(v), "")
		is(t, fmt.Sprint("PartialDir of ", v), PartialDir(v), "")
	}
}

// P12.3

// wrong clusters, each with the error that it has.
func wrongClusters() map[api.Errno]api.Cluster {
	all := map[api.Errno]api.Cluster{}
	for e, change := range map[api.Errno]func(c *api.Cluster){
		api.ErrName:    func(c *api.Cluster) { c.Store = "" },
		api.ErrSetting: func(c *api.Cluster) { c.Retain = 9 },
		api.ErrNodes:   func(c *api.Cluster) { c.Nodes = nil },
		api.ErrParts:   func(c *api.Cluster) { c.Nodes[1].Parts = []int{4} },
		api.ErrCopies:  func(c *api.Cluster) { c.Replicas = 4 },
		api.ErrBig: func(c *api.Cluster) {
			c.Chunks = 16
			for p := range 13 {
				c.Nodes[2].Parts = append(c.Nodes[2].Parts, 4+p)
			}
		},
	} {
		c := east()
		change(&c)
		all[e] = c
	}
	return all
}

func TestOpenIsRefused(t *testing.T) {
	for e, c := range wrongClusters() {
		for _, node := range []int{leastInt, 1, 3, mostInt} { // the cluster is told ahead of the node
			refuses(t, "a wrong cluster", fresh(t, 100), c, node, e)
		}
	}
	for _, node := range []int{leastInt, -1, 3, 15, 16, mostInt} {
		refuses(t, "no such node", fresh(t, 100), east(), node, api.ErrNode)
	}
	file := fresh(t, 100)
	put(t, file, "store", "")
	refuses(t, "a file", file, east(), 1, api.ErrKind)
	refuses(t, "a file, and no such node", file, east(), 3, api.ErrNode)
	down(t, file)
	refuses(t, "a file on a disk that is down", file, east(), 1, api.ErrDown)
	refuses(t, "that, and no such node", file, east(), -1, api.ErrNode)
	refuses(t, "that, and a wrong cluster", file, api.Cluster{}, 1, api.ErrName)
	for _, c := range []api.Cluster{{}, east()} {
		if x, e := Open(nil, c, 5); x != nil || e != api.ErrNil {
			t.Errorf("no disk: %v, %d", x != nil, e)
		}
	}
	if x, e := Open(new(disk.Disk), east(), 1); x != nil || e != api.ErrNil {
		t.Errorf("a disk that New did not make: %v, %d", x != nil, e)
	}
	empty := fresh(t, 0)
	down(t, empty)
	refuses(t, "a disk that is down", empty, east(), 1, api.ErrDown)
}

func TestOpenMakesTheStore(t *testing.T) {
	nothing := func(d *disk.Disk) {}
	actsAre(t, "Open", opening(t, east(), 1, nothing), api.OK, deeds("mkdir store\nsyncdir root"))
	full := fresh(t, 0)
	x := opens(t, full, east(), 1)
	stateIs(t, "a disk without room", x, 0, 0, 0, 0)
	calm(t, "a second Open", full, func() { opens(t, full, east(), 1) })
	other := fresh(t, 100)
	put(t, other, "a/b", "x")
	opens(t, other, east(), 0)
	same(t, "what else is there", other.Dump(), []api.Stored{{Path: "a", Kind: api.IsDir}, {Path: "a/b", Kind: api.IsFile, Data: "x"}, {Path: "store", Kind: api.IsDir}})
}

// full is a disk with all that an Open would take away, and two versions.
func full(t *testing.T) *disk.Disk {
	t.Helper()
	b := alone(t)
	b.admitted(t, 1, 2)
	put(t, b.d, "store/latest.new", "x")
	put(t, b.d, "store/trash-4/x", "x")
	put(t, b.d, "store/version-5/meta", "x")
	return b.d
}

func TestSpoiltPointer(t *testing.T) {
	good := pointer(t, 2, 1, 30, 4)
	var texts []string
	for i := range good {
		texts = append(texts, good[:i], good[:i]+string(good[i]^1)+good[i+1:])
	}
	texts = append(texts, good+"x", good+"\n", good+good, "x", " "+good)
	d := full(t)
	put(t, d, "store/latest", "")
	for _, text := range texts {
		rewrite(t, d, "store/latest", text)
		refuses(t, fmt.Sprintf("%q", text), d, small(2), 0, api.ErrPointer)
	}
	rewrite(t, d, "store/latest", good)
	stateIs(t, "the good one", opens(t, d, small(2), 0), 2, 1, 30, 4, 1, 2)
	for _, inside := range []string{"store/latest/", "store/latest/latest"} {
		d := full(t)
		put(t, d, inside, good)
		refuses(t, "a directory", d, small(2), 0, api.ErrPointer)
	}
}

func TestEveryPointer(t *testing.T) {
	for _, p := range []api.Pointer{{}, {Prev: 3}, {Prev: 999999}, {Epoch: most, Seq: most}, {Seq: 1}, {Epoch: 1}, {Cur: 1}, {Cur: 1, Prev: 1, Epoch: most}, {Cur: 2, Prev: 1, Seq: most}} {
		d := full(t)
		points(t, d, p.Cur, p.Prev, p.Epoch, p.Seq)
		stateIs(t, fmt.Sprint(p), opens(t, d, small(2), 0), p.Cur, p.Prev, p.Epoch, p.Seq, 1, 2)
	}
}

func TestCurrentIsNotWhole(t *testing.T) {
	for what, spoil := range map[string]func(d *disk.Disk){
		"none":          func(d *disk.Disk) { away(t, d, "store/version-2") },
		"a file":        func(d *disk.Disk) { away(t, d, "store/version-2"); put(t, d, "store/version-2", "x") },
		"without files": func(d *disk.Disk) { away(t, d, "store/version-2"); put(t, d, "store/version-2/", "") },
		"a byte more":   func(d *disk.Disk) { done(t, d.Append("store/version-2/0_0_0.data", "x")) },
		"a byte less":   func(d *disk.Disk) { done(t, d.Truncate("store/version-2/meta", 5)) },
		"one too few":   func(d *disk.Disk) { done(t, d.Remove("store/version-2/0_0_0.index")) },
		"one too many":  func(d *disk.Disk) { put(t, d, "store/version-2/journal", "") },
		"another version's": func(d *disk.Disk) {
			away(t, d, "store/version-2")
			done(t, d.Rename("store/version-1", "store/version-2"))
		},
		"a partial one":      func(d *disk.Disk) { done(t, d.Rename("store/version-2", "store/fetch-2")) },
		"with a 0 ahead":     func(d *disk.Disk) { done(t, d.Rename("store/version-2", "store/version-02")) },
		"taken for trash":    func(d *disk.Disk) { away(t, d, "store/trash-4"); done(t, d.Rename("store/version-2", "store/trash-2")) },
		"not there any more": func(d *disk.Disk) { points(t, d, 3, 1, 1, 1) },
		"the greatest":       func(d *disk.Disk) { points(t, d, 999999, 1, 1, 1) },
	} {
		d := full(t)
		points(t, d, 2, 1, 1, 1)
		spoil(d)
		refuses(t, what, d, small(2), 0, api.ErrCurrent)
	}
	d := full(t)
	points(t, d, 2, 1, 1, 1)
	other := small(2)
	other.Store = "other"
	refuses(t, "of another store", d, other, 0, api.ErrCurrent)
}

// A Prev that is none is no reason to refuse.
func TestPreviousIsNotWhole(t *testing.T) {
	for what, spoil := range map[string]func(d *disk.Disk){
		"none":    func(d *disk.Disk) { away(t, d, "store/version-1") },
		"spoilt":  func(d *disk.Disk) { done(t, d.Append("store/version-1/meta", "x")) },
		"a file":  func(d *disk.Disk) { away(t, d, "store/version-1"); put(t, d, "store/version-1", "x") },
		"partial": func(d *disk.Disk) { done(t, d.Rename("store/version-1", "store/fetch-1")) },
	} {
		d := full(t)
		points(t, d, 2, 1, 1, 1)
		spoil(d)
		x := opens(t, d, small(2), 0)
		stateIs(t, what, x, 2, 1, 1, 1, 2)
		calm(t, what, d, func() { is(t, what+": Rollback", x.Rollback(1, 2), api.ErrAbsent) })
		stateIs(t, what, x, 2, 1, 1, 1, 2)
		serves(t, what, x, 2)
		done(t, x.Rollback(2, 2)) // of a later epoch it is not needed
		stateIs(t, what, x, 2, 2, 2, 2, 2)
	}
}

// P12.4

func TestRecoveryActs(t *testing.T) {
	two := built(t, small(2), 0, 2, data(2, 0))
	for _, c := range []struct {
		what, paths string
		want        string
	}{
		{"nothing", "", ""},
		{"a pointer in part", "latest.new=gran", "remove store/latest.new\nsyncdir store"},
		{"a directory for it", "latest.new/", "remove store/latest.new\nsyncdir store"},
		{"one with entries", "latest.new/b=1 latest.new/a/x=2 latest.new/c/", `
			remove store/latest.new/a/x
			remove store/latest.new/a
			remove store/latest.new/b
			remove store/latest.new/c
			remove store/latest.new
			syncdir store`},
		{"trash", "trash-9/ trash-10/z=1 trash-10/a=2 trash-2=file trash-999999/a/b/c/d=1", `
			remove store/trash-10/a
			remove store/trash-10/z
			remove store/trash-10
			remove store/trash-2
			remove store/trash-9
			remove store/trash-999999/a/b/c/d
			remove store/trash-999999/a/b/c
			remove store/trash-999999/a/b
			remove store/trash-999999/a
			remove store/trash-999999
			syncdir store`},
		{"versions", "version-9/ version-10/meta=1 version-10/a/b=2 version-3=file", `
			rename store/version-10 store/trash-10
			syncdir store
			remove store/trash-10/a/b
			remove store/trash-10/a
			remove store/trash-10/meta
			remove store/trash-10
			syncdir store
			rename store/version-3 store/trash-3
			syncdir store
			remove store/trash-3
			syncdir store
			rename store/version-9 store/trash-9
			syncdir store
			remove store/trash-9
			syncdir store`},
		{"all of it", "version-5/x=1 trash-5/y=2 trash-4/ latest.new=", `
			remove store/latest.new
			remove store/trash-4
			remove store/trash-5/y
			remove store/trash-5
			syncdir store
			rename store/version-5 store/trash-5
			syncdir store
			remove store/trash-5/x
			remove store/trash-5
			syncdir store`},
	} {
		for _, isSafe := range []bool{false, true} {
			lie := func(d *disk.Disk) {
				put(t, d, "store/", "")
				for _, x := range strings.Fields(c.paths) {
					path, text, _ := strings.Cut(x, "=")
					put(t, d, "store/"+path, text)
				}
				lay(t, d, "store/version-2", two)
				points(t, d, 2, 0, 1, 1)
				if isSafe {
					safe(t, d)
				}
			}
			actsAre(t, c.what, opening(t, small(2), 0, lie), api.OK, deeds(c.want))
			d := fresh(t, 200000)
			lie(d)
			stateIs(t, c.what, opens(t, d, small(2), 0), 2, 0, 1, 1, 2)
			is(t, c.what, names(t, d), "latest version-2")
		}
	}
}

// What is not this layer's is left alone.
func TestOthersAreLeftAlone(t *testing.T) {
	d := fresh(t, 200000)
	others := []string{
		"version-0/x", "version-00/", "version-01/x", "version-1000000/x", "version-x/y", "version-/x", "version-1x/", "version--1/", "version-1.0/", "version-2-/", "version_1/", "xversion-1/", "version1/",
		"fetch-0/x", "fetch-01/", "fetch-x/", "fetch-1000000/", "fetch-2", "fetch-3/half",
		"trash-0/x", "trash-00", "trash-01/x", "trash-1000000/x", "trash-x", "trash-", "trash-1-1/", "xtrash-1",
		"latest.ne", "latest.new.x", "latest.new-/", "latest.old", "latest-new", "xlatest.new", "new", "version", "trash", "fetch", "another/version-1/x", "another/trash-1/x", "another/latest.new", "store/latest",
	}
	for _, path := range others {
		put(t, d, "store/"+path, strings.TrimSuffix(path, "/"))
	}
	put(t, d, "trash-1/x", "")
	put(t, d, "version-1/x", "")
	put(t, d, "latest.new", "")
	put(t, d, "latest", "")
	calm(t, "Open", d, func() {
		x := opens(t, d, small(2), 0)
		stateIs(t, "no versions", x, 0, 0, 0, 0)
		partialIs(t, "a partial one", x, 3)
	})
	put(t, d, "store/trash-1/x", "")
	put(t, d, "store/version-1/x", "")
	put(t, d, "store/latest.new", "")
	before := len(d.Dump())
	opens(t, d, small(2), 0)
	is(t, "what is gone", before-len(d.Dump()), 5)
}

func TestVersionsThatAreWhole(t *testing.T) {
	d := fresh(t, 200000)
	list := []int{1, 2, 9, 10, 11, 100, 99999, 999999}
	for _, v := range list {
		lay(t, d, fmt.Sprint("store/version-", v), built(t, small(1), 0, v, data(v, 0)))
	}
	calm(t, "Open", d, func() {
		x := opens(t, d, small(1), 0) // no version is too old for Open
		stateIs(t, "all", x, 0, 0, 0, 0, list...)
		for _, v := range list {
			if p, e := x.Entry(v, 0, 0); e != api.OK || !slices.Contains(data(v, 0), p) {
				t.Errorf("Entry(%d) = %v, %d", v, p, e)
			}
		}
	})
	for _, v := range []int{2, 10, 100} { // each in another way
		path := fmt.Sprintf("store/version-%d/", v)
		switch v {
		case 2:
			done(t, d.Remove(path+"meta"))
		case 10:
			text := bytesOf(t, d, path+"0_0_0.data")
			rewrite(t, d, path+"0_0_0.data", text[:9]+"X"+text[10:])
		case 100:
			put(t, d, path+"more/", "")
		}
	}
	stateIs(t, "the others", opens(t, d, small(1), 0), 0, 0, 0, 0, 1, 9, 11, 99999, 999999)
	is(t, "names", names(t, d), "version-1 version-11 version-9 version-99999 version-999999")
}

// A version of another store, another node, another number or another cluster's form is not whole.
func TestForeignVersions(t *testing.T) {
	d := fresh(t, 200000)
	other := east()
	other.Store = "west"
	wide := east()
	wide.Width = 2
	lay(t, d, "store/version-1", built(t, other, 1, 1, data(1, 0)))
	lay(t, d, "store/version-2", built(t, east(), 0, 2, data(2, 0)))
	lay(t, d, "store/version-3", built(t, east(), 1, 4, data(4, 0)))
	lay(t, d, "store/version-4", built(t, wide, 1, 4, data(4, 0)))
	lay(t, d, "store/version-5", built(t, east(), 1, 5, data(5, 0)))
	stateIs(t, "one", opens(t, d, east(), 1), 0, 0, 0, 0, 5)
	is(t, "names", names(t, d), "version-5")
}

// Open asks for no room, on a disk that is full, and on one that a crash made fuller than full.
func TestOpenWithoutRoom(t *testing.T) {
	d := full(t)
	points(t, d, 2, 1, 1, 1)
	fill(t, d, 0)
	is(t, "used", d.Used(), d.Capacity())
	stateIs(t, "full", opens(t, d, small(2), 0), 2, 1, 1, 1, 1, 2)
	d = fresh(t, 2000)
	opens(t, d, small(2), 0)
	lay(t, d, "store/version-2", built(t, small(2), 0, 2, data(2, 0)))
	fill(t, d, 0)
	safe(t, d)
	done(t, d.Remove("fill"))
	put(t, d, "store/version-3/x", strings.Repeat("x", 500))
	put(t, d, "store/latest.new", strings.Repeat("x", 500))
	done(t, d.Sync("store/version-3/x"), d.SyncDir("store/version-3"), d.SyncDir("store"), d.Sync("store/latest.new"))
	d.Crash(0, 0)
	if d.Used() <= d.Capacity() {
		t.Fatalf("%d of %d used", d.Used(), d.Capacity())
	}
	stateIs(t, "fuller than full", opens(t, d, small(2), 0), 0, 0, 0, 0, 2)
	is(t, "names", names(t, d), "version-2")
}

// The steps stand in a list, each with its name; what may refuse comes ahead of what takes away.
func TestRecoverySteps(t *testing.T) {
	var all []string
	for _, s := range second(t).recovery() {
		all = append(all, s.name)
		if s.do == nil {
			t.Errorf("%s has no function", s.name)
		}
	}
	same(t, "steps", all, []string{"root", "pointer", "current", "litter", "others"})
}
