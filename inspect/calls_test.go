package inspect

import (
	"testing"

	"granary/api"
	"granary/disk"
)

// P22.1: the errors, in their order, and that nothing is touched.

// wrongClusters are definitions that ring.Check refuses, by what it answers.
func wrongClusters() map[api.Errno]api.Cluster {
	with := func(change func(c *api.Cluster)) api.Cluster {
		c := east()
		change(&c)
		return c
	}
	return map[api.Errno]api.Cluster{
		api.ErrName:    with(func(c *api.Cluster) { c.Store = "East"; c.Width = 0 }),
		api.ErrSetting: with(func(c *api.Cluster) { c.Width = 17; c.Nodes = nil }),
		api.ErrNodes:   with(func(c *api.Cluster) { c.Nodes = nil }),
		api.ErrParts:   with(func(c *api.Cluster) { c.Nodes[0].Parts = []int{0, 4}; c.Replicas = 4 }),
		api.ErrCopies:  with(func(c *api.Cluster) { c.Replicas = 4 }),
		api.ErrBig: with(func(c *api.Cluster) {
			c.Chunks = 16
			for p := 4; p < 17; p++ {
				c.Nodes[2].Parts = append(c.Nodes[2].Parts, p)
			}
		}),
	}
}

// full is a disk on which each look finds something of each kind that it knows.
func full(t *testing.T) *disk.Disk {
	t.Helper()
	d := fresh(t)
	builds(t, d, east(), 7, single())
	shelved(t, d, "store/version-7", 7)
	for _, x := range []string{"build-8", "part-9/", "gone-3/", "other", "job=x", "job.new", "store/latest=" + pointer(t, 7, 0, 1, 1), "store/latest.new", "store/fetch-8/", "store/trash-1/x", "store/version-9/", "store/x"} {
		d2 := laid(t, x)
		for _, y := range d2.Dump() {
			switch {
			case has(d, y.Path):
			case y.Kind == api.IsDir:
				done(t, d.Mkdir(y.Path))
			default:
				put(t, d, y.Path, y.Data)
			}
		}
	}
	return d
}

// looks are the three calls over a disk.
func looks(d *disk.Disk, c api.Cluster, node int) map[string]look {
	return map[string]look{
		"Store": func() ([]api.Finding, api.Errno) { return Store(d, c, node) },
		"Depot": func() ([]api.Finding, api.Errno) { return Depot(d, c) },
		"Desk":  func() ([]api.Finding, api.Errno) { return Desk(d) },
	}
}

func TestNoDisk(t *testing.T) {
	for _, c := range wrongClusters() {
		for _, node := range []int{leastInt, -1, 0, 2, 3, mostInt} {
			for name, l := range looks(nil, c, node) {
				refused(t, name, l, api.ErrNil)
			}
		}
	}
	for name, l := range looks(nil, east(), 1) {
		refused(t, name, l, api.ErrNil)
	}
	// One that disk.New did not make is none either; the disk says so when it is asked.
	for name, l := range looks(&disk.Disk{}, east(), 1) {
		refused(t, name, l, api.ErrNil)
	}
}

func TestWrongClusters(t *testing.T) {
	isDown := full(t)
	down(t, isDown)
	for want, c := range wrongClusters() {
		for _, d := range []*disk.Disk{full(t), isDown, fresh(t)} {
			for _, node := range []int{leastInt, -1, 0, 2, 3, mostInt} {
				all := looks(d, c, node)
				calm(t, "a wrong cluster", d, func() {
					refused(t, "Store", all["Store"], want)
					refused(t, "Depot", all["Depot"], want)
				})
			}
		}
	}
}

func TestNodes(t *testing.T) {
	isDown, c := full(t), east()
	down(t, isDown)
	c.Nodes = append(c.Nodes, api.NodeDef{}) // a node that holds nothing
	for _, d := range []*disk.Disk{full(t), isDown} {
		for _, node := range []int{leastInt, -1, 4, 5, 16, mostInt} {
			refused(t, "Store", func() ([]api.Finding, api.Errno) { return Store(d, c, node) }, api.ErrNode)
			refused(t, "Store", func() ([]api.Finding, api.Errno) { return Store(d, east(), node) }, api.ErrNode)
		}
		refused(t, "Store", func() ([]api.Finding, api.Errno) { return Store(d, east(), 3) }, api.ErrNode)
	}
	for node, count := range []int{1, 1, 0, 0} { // nodes 0 and 1 have abc's partition
		d := fresh(t)
		lay(t, d, "store/version-7", filesOf(t, c, node, 7, single()))
		storeIs(t, "a node's own", d, c, node, f("store/version-7", isGood, 0, 7, count))
		for other := range 4 {
			want := f("store/version-7", isBroken, api.ErrMissing, 7, 0)
			switch other {
			case node:
				continue
			case 3: // nothing but the papers belongs there
				want.Code = api.ErrExtra
			}
			storeIs(t, "another node's", d, c, other, want)
		}
	}
}

func TestDown(t *testing.T) {
	for _, d := range []*disk.Disk{fresh(t), full(t), laid(t, "store"), laid(t, "job/")} {
		down(t, d)
		for name, l := range looks(d, east(), 1) {
			calm(t, name, d, func() { refused(t, name, l, api.ErrDown) })
		}
		d.Crash(mostInt, 0)
		for name, l := range looks(d, east(), 1) {
			calm(t, name, d, func() {
				_, e := l()
				is(t, name+" behind the crash", e, api.OK)
			})
		}
	}
}

// Who looks wants no act: an armed disk stays up, and armed as it was.
func TestArmed(t *testing.T) {
	for _, acts := range []int{0, 1, 5} {
		d := full(t)
		want := map[string][]api.Finding{}
		for name, l := range looks(d, east(), 1) {
			want[name], _ = l()
			is(t, name+" finds something", len(want[name]) > 2, true)
		}
		done(t, d.Arm(acts))
		for name, l := range looks(d, east(), 1) {
			finds(t, name, d, l, want[name]...)
		}
		is(t, "Down", d.Down(), false)
		for range acts {
			done(t, d.SyncDir(""))
		}
		is(t, "the last act", d.SyncDir(""), api.ErrDown)
	}
}

// What is pending stays pending, and what is kept stays what it is.
func TestWhatSurvivesIsTheSame(t *testing.T) {
	for keep := range 12 {
		d, other := full(t), full(t)
		for _, x := range []*disk.Disk{d, other} {
			x.Crash(mostInt, 0)
			put(t, x, "store/fetch-5/manifest", "granary")
			put(t, x, "build-4/x", "x")
			done(t, x.Remove("job"), x.SyncDir("store"))
		}
		for range 3 {
			for name, l := range looks(d, east(), 1) {
				_, e := l()
				is(t, name, e, api.OK)
			}
		}
		is(t, "lost", d.Crash(keep, 2), other.Crash(keep, 2))
		lies(t, "behind the crash", d, other.Dump())
	}
}

// What is asked of no disk, of an empty one, of one with something of everything.
func TestFull(t *testing.T) {
	for name, l := range looks(fresh(t), east(), 1) {
		list, e := l()
		is(t, name, e, api.OK)
		is(t, name, len(list), 0)
	}
	d, foreign := full(t), func(names ...string) []api.Finding {
		var list []api.Finding
		for _, name := range names {
			list = append(list, isNobodys(name))
		}
		return list
	}
	want := append(foreign("build-7", "build-8", "gone-3", "job", "job.new", "other", "part-9"),
		f("store/fetch-8", isPartial, api.ErrMissing, 8, 0),
		f("store/latest", isGood, 0, 7, 0),
		f("store/latest.new", isLeft, 0, 0, 0),
		f("store/trash-1", isLeft, 0, 1, 0),
		f("store/version-7", isGood, 0, 7, countOf(t, east(), 1, data(7))),
		f("store/version-9", isBroken, api.ErrMissing, 9, 0),
		isNobodys("store/x"))
	eastIs(t, "Store", d, want...)
	depotIs(t, "Depot", d, east(),
		f("build-7", isGood, 0, 7, 1),
		f("build-7/node-0", isGood, 0, 7, 1),
		f("build-7/node-1", isGood, 0, 7, 1),
		f("build-7/node-2", isGood, 0, 7, 0),
		f("build-8", isBroken, api.ErrKind, 8, 0),
		f("gone-3", isGone, 0, 3, 0),
		isNobodys("job"), isNobodys("job.new"), isNobodys("other"),
		f("part-9", isLeft, 0, 9, 0),
		isNobodys("store"))
	deskIs(t, "Desk", d, append(foreign("build-7", "build-8", "gone-3"),
		f("job", isBroken, api.ErrForm, 0, 0),
		f("job.new", isLeft, 0, 0, 0),
		isNobodys("other"), isNobodys("part-9"), isNobodys("store"))...)
}

// Paths that are each other's beginnings: what rises are their bytes, so "-" and "." stand ahead of "/", and digits behind it.
func TestRisingPaths(t *testing.T) {
	d := laid(t, "store/a", "store/fetch", "store/latest/", "store-1", "store.a", "store0", "stor/x", "store_", "storea")
	eastIs(t, "Store", d,
		isNobodys("stor"), isNobodys("store-1"), isNobodys("store.a"),
		isNobodys("store/a"), isNobodys("store/fetch"), f("store/latest", isBroken, api.ErrPointer, 0, 0),
		isNobodys("store0"), isNobodys("store_"), isNobodys("storea"))
	d = laid(t, "build-1/x", "build-1-x", "build-1.x", "build-10/", "build-1_", "build-1x", "build-1/node-00", "build-1/node-1.x", "build-1/node")
	none := func(path string, version int) api.Finding { return f(path, isBroken, api.ErrNone, version, 0) }
	depotIs(t, "Depot", d, pair(),
		none("build-1", 1), isNobodys("build-1-x"), isNobodys("build-1.x"),
		isNobodys("build-1/node"), none("build-1/node-0", 1), isNobodys("build-1/node-00"), none("build-1/node-1", 1), isNobodys("build-1/node-1.x"), isNobodys("build-1/x"),
		none("build-10", 10), none("build-10/node-0", 10), none("build-10/node-1", 10),
		isNobodys("build-1_"), isNobodys("build-1x"))
	// Ten nodes and more: node-10 stands ahead of node-2.
	c := settings("many", 1, 1, 1, make([]api.NodeDef, 12)...)
	c.Nodes[3].Parts = []int{0}
	d = laid(t, "build-2/")
	want := []api.Finding{none("build-2", 2)}
	for _, node := range []string{"0", "1", "10", "11", "2", "3", "4", "5", "6", "7", "8", "9"} {
		want = append(want, none("build-2/node-"+node, 2))
	}
	depotIs(t, "twelve nodes", d, c, want...)
	d = laid(t, "job", "job-1", "job.new", "job.new.1", "job.newer", "job/"[:3]+"1", "jo")
	deskIs(t, "Desk", d,
		isNobodys("jo"), f("job", isBroken, api.ErrForm, 0, 0), isNobodys("job-1"), f("job.new", isLeft, 0, 0, 0),
		isNobodys("job.new.1"), isNobodys("job.newer"), isNobodys("job1"))
}
