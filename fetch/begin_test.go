package fetch

import (
	"slices"
	"strings"
	"testing"

	"granary/api"
	"granary/disk"
)

// P11.2

func TestLimitsEdges(t *testing.T) {
	wide := api.Limits{Block: 1, Rate: 1, Per: 1, Burst: 65536, Tries: 1, Base: 1, Most: 1024, Quota: 100}
	for what, c := range map[string]struct {
		set   func(l *api.Limits, n int)
		good  []int
		bad   []int
		start api.Limits
	}{
		"Block":               {set: func(l *api.Limits, n int) { l.Block = n }, start: wide, good: []int{1, 2, 4095, 4096}, bad: []int{leastInt, -1, 0, 4097, mostInt}},
		"Burst":               {set: func(l *api.Limits, n int) { l.Burst = n }, start: limits(), good: []int{4, 5, 65536}, bad: []int{leastInt, -1, 0, 1, 3, 65537, mostInt}},
		"Burst of 1":          {set: func(l *api.Limits, n int) { l.Block, l.Burst = 1, n }, start: limits(), good: []int{1, 2}, bad: []int{0, -1}},
		"Burst below a Block": {set: func(l *api.Limits, n int) { l.Block, l.Burst = n, n-1 }, start: limits(), bad: []int{1, 2, 4, 4096}},
		"Burst of a Block":    {set: func(l *api.Limits, n int) { l.Block, l.Burst = n, n }, start: limits(), good: []int{1, 2, 4, 4096}},
		"Quota":               {set: func(l *api.Limits, n int) { l.Quota = n }, start: limits(), good: []int{13, 14, 100, 1 << 30}, bad: []int{leastInt, -1, 1<<30 + 1, mostInt}},
		"Rate":                {set: func(l *api.Limits, n int) { l.Rate = n }, start: limits(), good: []int{1, 65536}, bad: []int{leastInt, -1, 0, 65537, mostInt}},
		"Per":                 {set: func(l *api.Limits, n int) { l.Per = n }, start: limits(), good: []int{1, 1024}, bad: []int{leastInt, -1, 0, 1025, mostInt}},
		"Tries":               {set: func(l *api.Limits, n int) { l.Tries = n }, start: limits(), good: []int{1, 64}, bad: []int{leastInt, -1, 0, 65, mostInt}},
		"Base":                {set: func(l *api.Limits, n int) { l.Base = n }, start: wide, good: []int{1, 2, 1024}, bad: []int{leastInt, -1, 0, 1025, mostInt}},
		"Most":                {set: func(l *api.Limits, n int) { l.Base, l.Most = 5, n }, start: limits(), good: []int{5, 6, 1024}, bad: []int{leastInt, -1, 0, 4, 1025, mostInt}},
	} {
		for _, n := range c.good {
			l := c.start
			c.set(&l, n)
			begins(t, stored(t), dir, manifest(t, 5, ours()), l)
		}
		for _, n := range c.bad {
			l := c.start
			c.set(&l, n)
			refuses(t, what, stored(t), dir, manifest(t, 5, ours()), l, api.ErrArg)
		}
	}
}

func TestQuota(t *testing.T) {
	for quota, want := range map[int]api.Errno{0: api.ErrQuota, 1: api.ErrQuota, 12: api.ErrQuota, 13: api.OK, 14: api.OK, 1 << 30: api.OK} {
		l := limits()
		l.Quota = quota
		if want == api.OK {
			begins(t, stored(t), dir, manifest(t, 5, ours()), l)
		} else {
			refuses(t, "the quota", stored(t), dir, manifest(t, 5, ours()), l, want)
		}
	}
	l := limits()
	l.Quota = 0
	begins(t, stored(t), dir, manifest(t, 5, nil), l)
	begins(t, stored(t), dir, manifest(t, 5, files("a=", "b=")), l)
	// All files together count, each of them may be below the quota, and the whole far above any disk.
	var rows []api.FileRow
	for _, name := range []string{"a", "b", "c"} {
		rows = append(rows, api.FileRow{Name: name, Size: 1 << 30, Md5: md("")})
	}
	l.Quota = 1 << 30
	refuses(t, "three great files", stored(t), dir, manifestOf(t, 5, rows), l, api.ErrQuota)
	begins(t, stored(t), dir, manifestOf(t, 5, rows[:1]), l)
}

func TestManifestsThatAreNone(t *testing.T) {
	good := manifest(t, 5, ours())
	for text, want := range map[string]api.Errno{
		"": api.ErrForm, "x": api.ErrForm, good + "\n": api.ErrForm, good[1:]: api.ErrForm, good[:len(good)-1]: api.ErrForm,
		strings.Replace(good, "version 5", "version 6", 1):                 api.ErrSum,
		resealed(strings.Replace(good, "version 5", "version 0", 1)):       api.ErrField,
		resealed(strings.Replace(good, "version 5", "version 1000000", 1)): api.ErrField,
		resealed(strings.Replace(good, "file meta", "file .", 1)):          api.ErrField,
		resealed(strings.Replace(good, "total 13", "total 14", 1)):         api.ErrTotal,
	} {
		refuses(t, text, stored(t), dir, text, limits(), want)
	}
}

// resealed is a manifest with the sum of the lines that it has.
func resealed(text string) string {
	text = text[:strings.LastIndex(text, "sum ")]
	sum := strings.Fields(note(1, 0, 0, crc(text)))[3]
	return text + "sum " + sum + "\n"
}

func TestRowsThatMayNotBe(t *testing.T) {
	for _, list := range [][]api.Pair{files("journal=x"), files("manifest=x"), files("a=x", "journal=", "z=y"), files("a=x", "manifest="), files("journal=", "manifest=")} {
		refuses(t, "a row's name", stored(t), dir, manifest(t, 5, list), limits(), api.ErrFile)
	}
	begins(t, stored(t), dir, manifest(t, 5, files("journal-=x", "journal.=", "journals=x", "manifest.=", "manifests=")), limits())
}

func TestEmptyRows(t *testing.T) {
	good := api.FileRow{Name: "b", Md5: md("")}
	for what, bad := range map[string]api.FileRow{
		"CRC": {Name: "b", Crc: 1, Md5: md("")}, "MD5": {Name: "b", Md5: md("x")}, "both": {Name: "b", Crc: crc("x"), Md5: md("x")}, "the greatest CRC": {Name: "b", Crc: 1<<32 - 1, Md5: md("")},
	} {
		first, last := api.FileRow{Name: "a", Md5: md("")}, api.FileRow{Name: "c", Size: 1, Crc: crc("x"), Md5: md("x")}
		for _, rows := range [][]api.FileRow{{bad}, {first, bad}, {bad, last}, {first, bad, last}} {
			refuses(t, what, stored(t), dir, manifestOf(t, 5, rows), limits(), api.ErrWhole)
		}
		begins(t, stored(t), dir, manifestOf(t, 5, []api.FileRow{first, good, last}), limits())
	}
}

func TestPlacesThatMayNotBe(t *testing.T) {
	d := stored(t)
	put(t, d, "file", "x")
	put(t, d, "store/f", "x")
	text := manifest(t, 5, ours())
	for path, want := range map[string]api.Errno{
		"": api.ErrPath, "A": api.ErrPath, "/": api.ErrPath, "store/": api.ErrPath, "store//x": api.ErrPath, "store/..": api.ErrPath, strings.Repeat("a/", 8) + "a": api.ErrPath, strings.Repeat("a", 41): api.ErrPath,
		"file": api.ErrKind, "store/f": api.ErrKind, "file/x": api.ErrKind, "store/f/x/y": api.ErrKind, "no/x": api.ErrNone, "store/no/x": api.ErrNone,
	} {
		refuses(t, path, d, path, text, limits(), want)
	}
	down(t, d)
	refuses(t, "a disk that is down", d, dir, text, limits(), api.ErrDown)
	refuses(t, "down, no path", d, "A", text, limits(), api.ErrDown)
	refuses(t, "down, the root", d, "", text, limits(), api.ErrPath)
	refuses(t, "no disk", nil, dir, text, limits(), api.ErrNil)
	refuses(t, "a disk that was not made", new(disk.Disk), dir, text, limits(), api.ErrNil)
}

// Of all faults that a Begin can have at once the first is told.
func TestOrderOfRefusals(t *testing.T) {
	order := []api.Errno{api.ErrNil, api.ErrArg, api.ErrForm, api.ErrFile, api.ErrQuota, api.ErrWhole, api.ErrPath, api.ErrKind}
	for mix := 1; mix < 1<<len(order); mix++ {
		has := func(e api.Errno) bool { return mix&(1<<slices.Index(order, e)) != 0 }
		d, at, lim := stored(t), dir, limits()
		put(t, d, dir, "a file")
		if !has(api.ErrKind) {
			done(t, d.Remove(dir))
		}
		rows := []api.FileRow{{Name: "a", Size: 20, Crc: 7, Md5: md("x")}, {Name: "b", Md5: md("")}}
		if has(api.ErrWhole) {
			rows[1].Crc = 3
		}
		if has(api.ErrFile) {
			rows[0].Name, rows[1].Name = "journal", "k"
		}
		text := manifestOf(t, 5, rows)
		if has(api.ErrForm) {
			text += "x"
		}
		if has(api.ErrQuota) {
			lim.Quota = 19
		}
		if has(api.ErrArg) {
			lim.Block = 0
		}
		if has(api.ErrPath) {
			at = ""
		}
		if has(api.ErrNil) {
			d = nil
		}
		want := order[slices.IndexFunc(order, has)]
		refuses(t, "a mix", d, at, text, lim, want)
	}
}

// The arguments are asked ahead of everything else, each of them.
func TestBadLimitsAreToldFirst(t *testing.T) {
	for _, spoil := range []func(*api.Limits){
		func(l *api.Limits) { l.Block = 4097 }, func(l *api.Limits) { l.Burst = 3 }, func(l *api.Limits) { l.Quota = -1 }, func(l *api.Limits) { l.Rate = 0 }, func(l *api.Limits) { l.Per = 0 },
		func(l *api.Limits) { l.Burst = 65537 }, func(l *api.Limits) { l.Tries = 0 }, func(l *api.Limits) { l.Base = 0 }, func(l *api.Limits) { l.Most = 1025 },
	} {
		l := limits()
		spoil(&l)
		refuses(t, "limits", stored(t), "", "x", l, api.ErrArg)
		refuses(t, "limits, no disk", nil, "", "x", l, api.ErrNil)
	}
}

// P11.3

// anew are the acts of a Begin where nothing is.
func anew(dir, above, text string, version int, list []api.Pair) []step {
	all := []step{
		{do: "mkdir", path: dir},
		{do: "create", path: dir + "/manifest"}, {do: "append", path: dir + "/manifest", data: text}, {do: "sync", path: dir + "/manifest"},
		{do: "create", path: dir + "/journal"}, {do: "append", path: dir + "/journal", data: beginNote(version, text)}, {do: "sync", path: dir + "/journal"},
	}
	for _, f := range list {
		all = append(all, step{do: "create", path: dir + "/" + f.Key})
	}
	return append(all, step{do: "syncdir", path: dir}, step{do: "syncdir", path: above})
}

// beginning is a Begin on a disk that is made ready.
func beginning(t *testing.T, dir, text string, ready func(d *disk.Disk)) func() (*disk.Disk, func() api.Errno) {
	return func() (*disk.Disk, func() api.Errno) {
		d := stored(t)
		ready(d)
		return d, func() api.Errno {
			j, e := Begin(d, dir, text, limits())
			is(t, "a job", j != nil, e == api.OK)
			return e
		}
	}
}

func TestAnew(t *testing.T) {
	for _, list := range [][]api.Pair{ours(), files("a=x"), files("a=", "b=x"), files("z=12345")} {
		text := manifest(t, 5, list)
		actsAre(t, "beside others", beginning(t, dir, text, func(d *disk.Disk) { put(t, d, "store/fetch-4/x", "x") }), api.OK, anew(dir, "store", text, 5, list))
		actsAre(t, "in the root", beginning(t, "f", text, func(*disk.Disk) {}), api.OK, anew("f", "", text, 5, list))
		actsAre(t, "deep", beginning(t, "a/b/c/d", text, func(d *disk.Disk) { put(t, d, "a/b/c/", "") }), api.OK, anew("a/b/c/d", "a/b/c", text, 5, list))
	}
}

func TestAnewAndEnded(t *testing.T) {
	for _, list := range [][]api.Pair{nil, files("a="), files("a=", "b=", "c=")} {
		text := manifest(t, 5, list)
		actsAre(t, "nothing to fetch", beginning(t, dir, text, func(*disk.Disk) {}), api.OK, anew(dir, "store", text, 5, list), ended())
		d := stored(t)
		j := begins(t, d, dir, text, limits())
		stateIs(t, "nothing to fetch", j, 5, api.FetchDone, len(list), 0, 0, api.OK)
		askFails(t, j, api.ErrOver)
		isWhole(t, "nothing to fetch", d, dir, text, list)
	}
}

func TestSweptFirst(t *testing.T) {
	text := manifest(t, 5, ours())
	ready := func(d *disk.Disk) {
		put(t, d, dir+"/x", "x")
		put(t, d, dir+"/a/b/c", "c")
		put(t, d, dir+"/a/a/", "")
		safe(t, d)
		put(t, d, dir+"/manifest", text)
		put(t, d, dir+"-beside/x", "x")
	}
	swept := []step{
		{do: "remove", path: dir + "/a/a"}, {do: "remove", path: dir + "/a/b/c"}, {do: "remove", path: dir + "/a/b"}, {do: "remove", path: dir + "/a"},
		{do: "remove", path: dir + "/manifest"}, {do: "remove", path: dir + "/x"}, {do: "remove", path: dir}, {do: "syncdir", path: "store"},
	}
	actsAre(t, "a directory in the way", beginning(t, dir, text, ready), api.OK, swept, anew(dir, "store", text, 5, ours()))
	empty := []step{{do: "remove", path: dir}, {do: "syncdir", path: "store"}}
	actsAre(t, "an empty directory", beginning(t, dir, text, func(d *disk.Disk) { put(t, d, dir+"/", "") }), api.OK, empty, anew(dir, "store", text, 5, ours()))
}

// An act that is refused ends Begin, with what was done ahead of it.
func TestAnewRefused(t *testing.T) {
	text := manifest(t, 5, ours())
	line := beginNote(5, text)
	for capacity, want := range map[int][]string{
		0: {"manifest="}, len(text) - 1: {"manifest="}, len(text): {"journal=", "manifest=" + text}, len(text) + len(line) - 1: {"journal=", "manifest=" + text},
		len(text) + len(line): {"0_0_0.data=", "0_0_0.index=", "journal=" + line, "manifest=" + text, "meta="},
	} {
		d := fresh(t, capacity)
		done(t, d.Mkdir("store"))
		j, e := Begin(d, dir, text, limits())
		if full := capacity < len(text)+len(line); (j == nil) != full || (e == api.ErrFull) != full {
			t.Errorf("a disk of %d bytes: Begin = %v, %d", capacity, j != nil, e)
		}
		same(t, "what was done", under(d, dir), want)
	}
	deep := "1/2/3/4/5/6/7/8"
	d := fresh(t, 10000)
	put(t, d, "1/2/3/4/5/6/7/", "")
	for range 2 { // the second time it is swept first
		if j, e := Begin(d, deep, text, limits()); j != nil || e != api.ErrPath {
			t.Errorf("a directory in which no file can be: Begin = %v, %d", j != nil, e)
		}
		is(t, "it was made", has(d, deep), true)
	}
	begins(t, d, "1/2/3/4/5/6/fetch", text, limits())
}
