package inspect

import (
	"testing"

	"granary/api"
	"granary/builder"
	"granary/disk"
	"granary/engine"
	"granary/fetch"
	"granary/steward"
)

// The chapter's examples, by their numbers: E, its node 1, version 7 with the one pair abc, one.

func TestExample1(t *testing.T) {
	d := fresh(t)
	eastIs(t, "Store", d)
	depotIs(t, "Depot", d, east())
	deskIs(t, "Desk", d)
	is(t, "Verdict", Verdict(nil), 0)
	put(t, d, "x", "")
	eastIs(t, "Store", d, isNobodys("x"))
	depotIs(t, "Depot", d, east(), isNobodys("x"))
	deskIs(t, "Desk", d, isNobodys("x"))
	d = laid(t, "store")
	eastIs(t, "Store", d, f("store", isBroken, api.ErrKind, 0, 0))
	depotIs(t, "Depot", d, east(), isNobodys("store"))
	deskIs(t, "Desk", d, isNobodys("store"))
}

// fetching is a node's disk whose engine is opened, with so many blocks of version 7 fetched.
func fetching(t *testing.T, blocks int) (*disk.Disk, *engine.Engine) {
	t.Helper()
	d := fresh(t)
	x, e := engine.Open(d, east(), 1)
	done(t, e)
	files := filesOf(t, east(), 1, 7, single())
	j, e := fetch.Begin(d, engine.PartialDir(7), manifestIn(files), limitsOf(east(), 4))
	done(t, e, feeds(t, j, files, blocks))
	return d, x
}

// serving is a node's disk on which version 7 is current.
func serving(t *testing.T) *disk.Disk {
	t.Helper()
	d, x := fetching(t, mostInt)
	done(t, x.Admit(7), x.Swap(7, 1, 1))
	return d
}

func TestExample2(t *testing.T) {
	d := serving(t)
	eastIs(t, "Store", d, f("store/latest", isGood, 0, 7, 0), f("store/version-7", isGood, 0, 7, 1))
	for at := range bytesOf(t, d, "store/version-7/meta") {
		d := serving(t)
		turn(t, d, "store/version-7/meta", at)
		eastIs(t, "a byte turned", d, f("store/latest", isBroken, api.ErrCurrent, 7, 0), f("store/version-7", isBroken, api.ErrDamage, 7, 0))
		list, e := Store(d, east(), 1)
		done(t, e)
		is(t, "Verdict", Verdict(list), 6)
	}
}

func TestExample3(t *testing.T) {
	d := serving(t)
	done(t, d.Truncate("store/latest", 5))
	eastIs(t, "cut", d, f("store/latest", isBroken, api.ErrPointer, 0, 0), f("store/version-7", isGood, 0, 7, 1))
}

func TestExample4(t *testing.T) {
	eastIs(t, "Store", laid(t, "store/trash-3/x", "store/latest.new", "store/version-07/", "store/fetch-2"),
		isNobodys("store/fetch-2"), f("store/latest.new", isLeft, 0, 0, 0), f("store/trash-3", isLeft, 0, 3, 0), isNobodys("store/version-07"))
}

func TestExample5(t *testing.T) {
	holds := func(blocks int, code api.Errno, count int, change func(d *disk.Disk)) {
		t.Helper()
		d, _ := fetching(t, blocks)
		change(d)
		eastIs(t, "a fetch", d, f("store/fetch-7", isPartial, code, 7, count))
	}
	holds(0, api.OK, 0, func(d *disk.Disk) {})
	holds(1, api.OK, 4, func(d *disk.Disk) {})
	holds(1, api.ErrDamage, 0, func(d *disk.Disk) { done(t, d.Remove("store/fetch-7/journal")) })
	holds(1, api.ErrExtra, 0, func(d *disk.Disk) { done(t, d.Create("store/fetch-7/x")) })
	holds(1, api.ErrMissing, 0, func(d *disk.Disk) { done(t, d.Remove("store/fetch-7/manifest")) })
	d, _ := fetching(t, 1)
	done(t, d.Rename("store/fetch-7", "store/fetch-8"))
	eastIs(t, "under another name", d, f("store/fetch-8", isPartial, api.ErrOther, 8, 0))
}

func TestExample6(t *testing.T) {
	d := fresh(t)
	files := filesOf(t, east(), 1, 7, single())
	lay(t, d, "store/fetch-7", files)
	eastIs(t, "without a journal", d, f("store/fetch-7", isPartial, api.OK, 7, totalOf(t, manifestIn(files))))
}

func TestExample7(t *testing.T) {
	whole := []api.Finding{f("build-7", isGood, 0, 7, 1), f("build-7/node-0", isGood, 0, 7, 1), f("build-7/node-1", isGood, 0, 7, 1), f("build-7/node-2", isGood, 0, 7, 0)}
	depotIs(t, "behind Build", storehouse(t), east(), whole...)
	d := storehouse(t)
	done(t, builder.Drop(d, 7))
	depotIs(t, "behind Drop", d, east(), f("gone-7", isGone, 0, 7, 0))
	d = storehouse(t)
	done(t, d.Remove("build-7/node-1/meta"))
	depotIs(t, "without a meta", d, east(), f("build-7", isBroken, api.ErrMissing, 7, 0), whole[1], f("build-7/node-1", isBroken, api.ErrMissing, 7, 0), whole[3])
}

func TestExample8(t *testing.T) {
	d := swapped(t, east(), single(), []api.Pair{{Key: "abc", Value: "two"}}, 1)
	depotIs(t, "another value", d, east(), f("build-7", isBroken, api.ErrContent, 7, 0), f("build-7/node-0", isGood, 0, 7, 1), f("build-7/node-1", isGood, 0, 7, 1), f("build-7/node-2", isGood, 0, 7, 0))
}

func TestExample9(t *testing.T) {
	d := fresh(t)
	s, e := steward.New(east(), d)
	done(t, e)
	_, e = s.Boot()
	done(t, e)
	_, e = s.Begin(1, 7)
	done(t, e)
	deskIs(t, "begun", d, f("job", isPartial, 0, 7, 1))
	_, e = s.Stop()
	done(t, e)
	for range 6 {
		deskIs(t, "going on", d, f("job", isPartial, 0, 7, 1))
		_, e = s.Tick()
		done(t, e)
	}
	deskIs(t, "ended", d, f("job", isGood, 0, 7, 1))
	deskIs(t, "a text x", laid(t, "job=x"), f("job", isBroken, api.ErrForm, 0, 0))
	deskIs(t, "a file", laid(t, "job.new"), f("job.new", isLeft, 0, 0, 0))
	deskIs(t, "an empty directory", laid(t, "job.new/"), f("job.new", isLeft, 0, 0, 0))
	deskIs(t, "with something in it", laid(t, "job.new/x"), f("job.new", isBroken, api.ErrFilled, 0, 0))
}

func TestExample10(t *testing.T) {
	for name, l := range looks(nil, east(), 1) {
		refused(t, name, l, api.ErrNil)
	}
	d := serving(t)
	refused(t, "node 3", func() ([]api.Finding, api.Errno) { return Store(d, east(), 3) }, api.ErrNode)
	done(t, d.Arm(0))
	finds(t, "armed", d, looks(d, east(), 1)["Store"], f("store/latest", isGood, 0, 7, 0), f("store/version-7", isGood, 0, 7, 1))
	is(t, "an act", d.Create("x"), api.ErrDown)
	for name, l := range looks(d, east(), 1) {
		refused(t, name, l, api.ErrDown)
	}
}
