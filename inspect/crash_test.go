package inspect

import (
	"fmt"
	"slices"
	"strconv"
	"testing"

	"granary/api"
	"granary/builder"
	"granary/disk"
	"granary/engine"
	"granary/fetch"
	"granary/steward"
)

// P22.8, and P22.7 over what is left: the disk goes down at each act of each call, and anything may survive.

// life is what goes on upon a disk, from an empty one on, till the disk goes down or it ends.
type life func(t *testing.T, d *disk.Disk)

// brokenOff lives a life up to each of its acts, lets a crash come there with each prefix of what was pending, and asks.
func brokenOff(t *testing.T, torn []int, l life, ask func(what string, d *disk.Disk)) {
	t.Helper()
	whole := fresh(t)
	l(t, whole)
	for k := range whole.Acts() + 1 {
		for keep, pending := 0, 0; keep <= pending && !t.Failed(); keep++ {
			var last []api.Stored
			for _, bytes := range torn {
				d := fresh(t)
				done(t, d.Arm(k))
				l(t, d)
				pending = d.Pending()
				d.Crash(keep, bytes)
				if bytes > 0 && slices.Equal(d.Dump(), last) {
					break // all its bytes were there, or it is no Append
				}
				last = d.Dump()
				ask(fmt.Sprintf("%d acts of %d, %d changes of %d and %d bytes survive", k, whole.Acts(), keep, pending, bytes), d)
			}
		}
	}
}

// unbroken holds that nothing is broken, and nothing nobody's.
func unbroken(t *testing.T, what string, list []api.Finding, e api.Errno) {
	t.Helper()
	is(t, what, e, api.OK)
	for _, x := range list {
		if x.Kind == isBroken || x.Kind == isForeign {
			t.Errorf("%s: %+v, among\n     %s", what, x, lines(list))
		}
	}
}

// steps does one thing after the other, till one is refused.
func steps(all ...func() api.Errno) {
	for _, do := range all {
		if do() != api.OK {
			return
		}
	}
}

// A node's store.

// fetched brings so many blocks of a version, with which it goes on where it was.
func fetched(t *testing.T, d *disk.Disk, c api.Cluster, version, block, blocks int) api.Errno {
	t.Helper()
	files := filesOf(t, c, 0, version, data(version))
	j, e := fetch.Begin(d, engine.PartialDir(version), manifestIn(files), limitsOf(c, block))
	if e != api.OK {
		return e
	}
	return feeds(t, j, files, blocks)
}

// nodesLife is a node's: it fetches, admits, swaps, goes back, prunes, and gives a fetch up.
func nodesLife(t *testing.T, d *disk.Disk) {
	c := small()
	x, e := engine.Open(d, c, 0)
	if e != api.OK {
		return
	}
	fetches := func(version, block, blocks int) func() api.Errno {
		return func() api.Errno { return fetched(t, d, c, version, block, blocks) }
	}
	admits := func(version int) func() api.Errno {
		return func() api.Errno { return x.Admit(version) }
	}
	swaps := func(version, epoch int) func() api.Errno {
		return func() api.Errno { return x.Swap(version, epoch, 1) }
	}
	prunes := func() api.Errno { _, e := x.Prune(); return e }
	steps(
		fetches(1, 4096, 0), fetches(1, 200, mostInt), admits(1), swaps(1, 1),
		fetches(2, 4096, mostInt), admits(2), swaps(2, 2),
		fetches(3, 200, 2), fetches(3, 4096, mostInt), admits(3), swaps(3, 3),
		prunes,
		func() api.Errno { return x.Rollback(3, 2) },
		fetches(4, 100, 3),
		func() api.Errno { return fetch.Sweep(d, engine.PartialDir(4)) },
		prunes,
	)
}

func TestStoresBrokenOff(t *testing.T) {
	c, n := small(), tally{}
	brokenOff(t, []int{0, 1, 30}, nodesLife, func(what string, d *disk.Disk) {
		list, e := Store(d, c, 0)
		unbroken(t, what, list, e)
		foretellsStore(t, what, d, c, 0)
		n.count(list)
	})
	for _, what := range []string{"1 0", "2 0", "2 40", "2 91", "2 92", "3 0", "safe"} {
		if n[what] == 0 {
			t.Errorf("%s: never found", what)
		}
	}
}

// A recovery is broken off too, again and again.
func TestOpensBrokenOff(t *testing.T) {
	c := small()
	left := 0
	brokenOff(t, []int{0}, nodesLife, func(what string, d *disk.Disk) {
		list, e := Store(d, c, 0)
		is(t, what, e, api.OK)
		if !slices.ContainsFunc(list, func(x api.Finding) bool { return x.Kind == isLeft }) {
			return
		}
		left++
		for k := range 12 {
			for keep := range 4 {
				other := copied(t, d)
				other.Crash(mostInt, 0) // all is safe
				done(t, other.Arm(k))
				engine.Open(other, c, 0)
				other.Crash(keep, 0)
				what := fmt.Sprintf("%s; an Open of %d acts, %d changes survive", what, k, keep)
				list, e := Store(other, c, 0)
				unbroken(t, what, list, e)
				foretellsStore(t, what, other, c, 0)
			}
		}
	})
	is(t, "something was left, a few times", left > 10, true)
}

// anyOrder does something by lot, as a node may or as nobody would ask for it: old orders, forged blocks, another's manifest.
func anyOrder(t *testing.T, lot *dice, d *disk.Disk, x *engine.Engine) {
	t.Helper()
	c, version := east(), 1+lot.roll(4)
	switch lot.roll(7) {
	case 0:
		x.Admit(version)
	case 1:
		x.Swap(version, lot.roll(6), lot.roll(3))
	case 2:
		x.Rollback(lot.roll(6), lot.roll(3))
	case 3:
		x.Prune()
	case 4:
		if lot.roll(3) == 0 {
			fetch.Sweep(d, engine.PartialDir(version))
		}
	default:
		anyFetch(t, lot, d, c, version)
	}
}

// anyFetch goes on with a fetch, mostly to its end, and mostly of what belongs there.
func anyFetch(t *testing.T, lot *dice, d *disk.Disk, c api.Cluster, version int) {
	t.Helper()
	node, of := 1, version
	switch lot.roll(8) {
	case 0:
		node = lot.roll(3)
	case 1:
		of = 1 + lot.roll(4)
	}
	files := filesOf(t, c, node, of, data(of))
	j, e := fetch.Begin(d, engine.PartialDir(version), manifestIn(files), limitsOf(c, oneOf(lot, 30, 100, 4096)))
	if e != api.OK {
		return
	}
	if w, e := j.Ask(); e == api.OK && lot.roll(6) == 0 { // the sum of a forged block fits it
		forged := slices.Repeat([]byte{'x'}, w.Size)
		j.Put(string(forged), crc(string(forged)))
	}
	feedsWhatIsAsked(j, files, oneOf(lot, 0, 1, 3, mostInt, mostInt))
}

// feedsWhatIsAsked gives so many blocks, whatever comes of them.
func feedsWhatIsAsked(j *fetch.Job, files []api.Pair, blocks int) {
	for n := 0; n < min(blocks, 1000) && j.State().Phase == api.FetchRunning; n++ {
		j.Tick(1)
		w, e := j.Ask()
		if e != api.OK {
			continue
		}
		at := slices.IndexFunc(files, func(f api.Pair) bool { return f.Key == w.File })
		block := files[at].Value[w.At : w.At+w.Size]
		j.Put(block, crc(block))
	}
}

func TestStoresThatGoOn(t *testing.T) {
	c, lot, n := east(), dice(2208), tally{}
	for range 60 {
		d := fresh(t)
		for range 12 {
			if lot.roll(4) > 0 {
				done(t, d.Arm(lot.roll(60)))
			}
			x, _ := engine.Open(d, c, 1)
			for range 1 + lot.roll(8) {
				if x.State().Cur > 0 || lot.roll(2) == 0 {
					anyOrder(t, &lot, d, x)
				} else {
					anyFetch(t, &lot, d, c, 1)
					x.Admit(1)
					x.Swap(1, 1, 1)
				}
			}
			if d.Down() || lot.roll(3) == 0 {
				d.Crash(lot.roll(d.Pending()+1), lot.roll(40))
			}
			done(t, d.Arm(-1))
			list, e := Store(d, c, 1)
			unbroken(t, "it goes on", list, e)
			foretellsStore(t, "it goes on", d, c, 1)
			n.count(list)
			if t.Failed() {
				return
			}
		}
	}
	for _, what := range []string{"1 0", "2 0", "2 40", "2 90", "2 92", "3 0", "safe"} {
		if n[what] == 0 {
			t.Errorf("%s: never found", what)
		}
	}
}

// A depot.

// buildersLife builds, drops, and builds again.
func buildersLife(c api.Cluster, count int) life {
	return func(t *testing.T, d *disk.Disk) {
		build := func(version int) func() api.Errno {
			return func() api.Errno {
				_, e := builder.Build(d, c, api.Job{Version: version, Memory: 200, FanIn: 2}, data(version)[:count])
				return e
			}
		}
		steps(
			build(1),
			build(10),
			func() api.Errno { return builder.Drop(d, 1) },
			build(2),
			func() api.Errno { return builder.Clean(d) },
			func() api.Errno { return builder.Drop(d, 10) },
		)
	}
}

func TestDepotsBrokenOff(t *testing.T) {
	c, n := small(), tally{}
	brokenOff(t, []int{0, 30}, buildersLife(c, 3), func(what string, d *disk.Disk) {
		list, e := Depot(d, c)
		unbroken(t, what, list, e)
		foretellsDepot(t, what, d, c)
		n.count(list)
	})
	for _, what := range []string{"1 0", "3 0", "4 0"} {
		if n[what] == 0 {
			t.Errorf("%s: never found", what)
		}
	}
}

// A call by which a broken-off one is cleared away is broken off too, again and again; and replicas are alike all the way.
func TestDepotsThatGoOn(t *testing.T) {
	c, lot, n := east(), dice(2209), tally{}
	for range 25 {
		d := fresh(t)
		for range 10 {
			done(t, d.Arm(lot.roll(oneOf(&lot, 20, 250, 1000))))
			for range 1 + lot.roll(4) {
				version := 1 + lot.roll(5)
				switch lot.roll(5) {
				case 0:
					builder.Clean(d)
				case 1:
					builder.Drop(d, version)
				default:
					builder.Build(d, c, api.Job{Version: version, Policy: lot.roll(2), Memory: 300, FanIn: 2}, data(version)[:lot.roll(12)])
				}
			}
			if d.Down() || lot.roll(3) == 0 {
				d.Crash(lot.roll(d.Pending()+1), lot.roll(40))
			}
			done(t, d.Arm(-1))
			list, e := Depot(d, c)
			unbroken(t, "it goes on", list, e)
			foretellsDepot(t, "it goes on", d, c)
			n.count(list)
			if t.Failed() {
				return
			}
		}
	}
	for _, what := range []string{"1 0", "3 0", "4 0"} {
		if n[what] == 0 {
			t.Errorf("%s: never found", what)
		}
	}
}

// A steward's disk.

// ticks lets time go by till the job that is going on has ended.
func ticks(s *steward.Steward) api.Errno {
	for s.Busy() {
		if _, e := s.Tick(); e != api.OK {
			return e
		}
	}
	return api.OK
}

// stewardsLife has jobs of each kind, which end, and one that is taken back behind a Halt.
func stewardsLife(t *testing.T, d *disk.Disk) {
	s, e := steward.New(east(), d)
	done(t, e)
	boots := func() api.Errno { _, e := s.Boot(); return e }
	begins := func(kind, version int) func() api.Errno {
		return func() api.Errno { _, e := s.Begin(kind, version); return e }
	}
	ends := func() api.Errno { return ticks(s) }
	steps(
		boots, begins(1, 7), ends, begins(2, last), ends, begins(3, 0), ends,
		begins(1, 8), s.Halt, boots, ends,
	)
}

func TestDesksBrokenOff(t *testing.T) {
	n := tally{}
	brokenOff(t, []int{0, 1, 30, 62}, stewardsLife, func(what string, d *disk.Disk) {
		list, e := Desk(d)
		unbroken(t, what, list, e)
		foretellsDesk(t, what, d)
		n.count(list)
		for k := range 3 { // the Boot behind it is broken off too
			other := copied(t, d)
			other.Crash(mostInt, 0)
			done(t, other.Arm(k))
			s, e := steward.New(east(), other)
			done(t, e)
			s.Boot()
			other.Crash(k%2, 0)
			list, e := Desk(other)
			unbroken(t, what+"; a Boot of "+strconv.Itoa(k)+" acts", list, e)
			foretellsDesk(t, what, other)
		}
	})
	for _, what := range []string{"1 0", "2 0", "3 0"} {
		if n[what] == 0 {
			t.Errorf("%s: never found", what)
		}
	}
}

// Calls in any order, crashes at any time.
func TestDesksThatGoOn(t *testing.T) {
	lot, n := dice(2210), tally{}
	for range 200 {
		d := fresh(t)
		for range 10 {
			if lot.roll(4) > 0 {
				done(t, d.Arm(lot.roll(15)))
			}
			s, e := steward.New(east(), d)
			done(t, e)
			s.Boot()
			for range lot.roll(12) {
				switch lot.roll(5) {
				case 0, 1:
					s.Begin(1+lot.roll(3), lot.roll(4))
				case 2:
					s.Stop()
				case 3:
					ticks(s)
				default:
					s.Tick()
				}
			}
			if d.Down() || lot.roll(3) == 0 {
				d.Crash(lot.roll(d.Pending()+1), lot.roll(70))
			}
			done(t, d.Arm(-1))
			list, e := Desk(d)
			unbroken(t, "it goes on", list, e)
			foretellsDesk(t, "it goes on", d)
			n.count(list)
		}
	}
	for _, what := range []string{"1 0", "2 0", "3 0"} {
		if n[what] == 0 {
			t.Errorf("%s: never found", what)
		}
	}
}

// Where there is no room what was begun is taken away again, or left over; nothing is broken by it.
func TestWithoutRoom(t *testing.T) {
	for room := 0; room < 6000; room += 61 {
		what := strconv.Itoa(room) + " bytes"
		d, e := disk.New(room)
		done(t, e)
		nodesLife(t, d)
		list, e := Store(d, small(), 0)
		unbroken(t, what, list, e)
		foretellsStore(t, what, d, small(), 0)
		d, e = disk.New(room)
		done(t, e)
		buildersLife(small(), 3)(t, d)
		list, e = Depot(d, small())
		unbroken(t, what, list, e)
		foretellsDepot(t, what, d, small())
		d, e = disk.New(room / 20)
		done(t, e)
		stewardsLife(t, d)
		list, e = Desk(d)
		unbroken(t, what, list, e)
		foretellsDesk(t, what, d)
	}
}
