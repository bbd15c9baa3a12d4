package fetch

import (
	"strings"
	"testing"

	"granary/api"
	"granary/disk"
)

// P11.12

// sweeping is a Sweep of a path on a disk that is made ready.
func sweepingOf(t *testing.T, path string, ready func(d *disk.Disk)) func() (*disk.Disk, func() api.Errno) {
	return func() (*disk.Disk, func() api.Errno) {
		d := stored(t)
		ready(d)
		return d, func() api.Errno { return Sweep(d, path) }
	}
}

func remove(path string) step { return step{do: "remove", path: path} }

func TestActsOfSweep(t *testing.T) {
	lie := func(d *disk.Disk) {
		for _, path := range []string{dir + "/b", dir + "/a/x/y", dir + "/a/x.y", dir + "/a/w/", dir + "/c/", dir + "/a.b", dir + "-beside/b", "store/b", "b"} {
			put(t, d, path, "x")
		}
	}
	all := []step{
		remove(dir + "/a/w"), remove(dir + "/a/x/y"), remove(dir + "/a/x"), remove(dir + "/a/x.y"), remove(dir + "/a"), remove(dir + "/a.b"), remove(dir + "/b"), remove(dir + "/c"), remove(dir),
		{do: "syncdir", path: "store"},
	}
	actsAre(t, "a directory that is not safe", sweepingOf(t, dir, lie), api.OK, all)
	actsAre(t, "a directory that is safe", sweepingOf(t, dir, func(d *disk.Disk) { lie(d); safe(t, d) }), api.OK, all)
	actsAre(t, "an empty directory", sweepingOf(t, dir+"/c", func(d *disk.Disk) { lie(d); safe(t, d) }), api.OK, []step{remove(dir + "/c"), {do: "syncdir", path: dir}})
	actsAre(t, "a file", sweepingOf(t, dir+"/a/x/y", func(d *disk.Disk) { lie(d); safe(t, d) }), api.OK, []step{remove(dir + "/a/x/y"), {do: "syncdir", path: dir + "/a/x"}})
	actsAre(t, "a file in the root", sweepingOf(t, "b", func(d *disk.Disk) { lie(d); safe(t, d) }), api.OK, []step{remove("b"), {do: "syncdir"}})
	actsAre(t, "a directory in the root", sweepingOf(t, "x", func(d *disk.Disk) { put(t, d, "x/y", "z") }), api.OK, []step{remove("x/y"), remove("x"), {do: "syncdir"}})
	for _, path := range []string{"no", "store/no", "no/no", dir + "/a/x/no", dir + "/c/no/no"} {
		actsAre(t, "nothing", sweepingOf(t, path, lie), api.OK)
	}
}

func TestSweepLeavesOthers(t *testing.T) {
	d := stored(t)
	put(t, d, dir+"-beside/x", "x")
	put(t, d, "store/other", "x")
	before := d.Dump()
	begun(t, d)
	put(t, d, dir+"/deep/er/x", "x")
	is(t, "Sweep", Sweep(d, dir), api.OK)
	same(t, "what is left", d.Dump(), before)
	is(t, "Sweep of nothing", Sweep(d, dir), api.OK)
	same(t, "what is left", d.Dump(), before)
}

// What was swept does not come back.
func TestSweptIsSafe(t *testing.T) {
	d := stored(t)
	begun(t, d)
	safe(t, d)
	is(t, "Sweep", Sweep(d, dir), api.OK)
	d.Crash(0, 0)
	is(t, "it is there", has(d, dir), false)
}

func TestSweepRefused(t *testing.T) {
	d := stored(t)
	put(t, d, "file", "x")
	for path, want := range map[string]api.Errno{
		"": api.ErrPath, "A": api.ErrPath, "/": api.ErrPath, "store/": api.ErrPath, "store/..": api.ErrPath, strings.Repeat("a/", 8) + "a": api.ErrPath, strings.Repeat("x", 100000): api.ErrPath,
		"file/x": api.ErrKind, "file/x/y": api.ErrKind, "no": api.OK, "no/no": api.OK,
	} {
		calm(t, path, d, func() { is(t, "Sweep of "+path, Sweep(d, path), want) })
	}
	is(t, "no disk", Sweep(nil, dir), api.ErrNil)
	is(t, "no disk, the root", Sweep(nil, ""), api.ErrNil)
	is(t, "no disk, no path", Sweep(nil, "A"), api.ErrNil)
	is(t, "a disk that was not made", Sweep(new(disk.Disk), dir), api.ErrNil)
	down(t, d)
	is(t, "a disk that is down", Sweep(d, "file"), api.ErrDown)
	is(t, "down, nothing there", Sweep(d, "no"), api.ErrDown)
	is(t, "down, no path", Sweep(d, "A"), api.ErrDown)
	is(t, "down, the root", Sweep(d, ""), api.ErrPath)
}

// Directories may lie eight deep.
func TestSweepDeep(t *testing.T) {
	d := fresh(t, 1000)
	put(t, d, "1/2/3/4/5/6/7/8", "x")
	put(t, d, "1/2/3/4/5/6/b/", "")
	put(t, d, "1/2/x/4/5/6/7/", "")
	is(t, "Sweep", Sweep(d, "1"), api.OK)
	is(t, "what is left", len(d.Dump()), 0)
	is(t, "bytes", d.Used(), 0)
}
