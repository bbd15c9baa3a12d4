package rebalance

import (
	"fmt"
	"slices"
	"testing"

	"granary/api"
)

// P23.7

// parcel is a Carry whose acts are looked at.
type parcel struct {
	what          string
	was, next     api.Cluster
	node          int
	pairs         []api.Pair
	toDir, parent string
}

func parcels() []parcel {
	one := settings(1, 1, 1, []int{0})
	two := settings(1, 1, 1, nil, []int{0})
	return []parcel{
		{"all chunks are empty", east(), west(), 3, chaff(), goal, "store"},
		{"one chunk is not", east(), west(), 1, chaff(), goal, "store"},
		{"some are not", east(), fits()["other places"], 1, data(6, ""), goal, "store"},
		{"a path of one name", one, one, 0, data(2, ""), "x", ""},
		{"no pairs", one, two, 1, nil, "store/a/b", "store/a"},
		{"nothing is held", one, two, 0, chaff(), goal, "store"},
	}
}

func (p parcel) files(t *testing.T) []api.Pair {
	t.Helper()
	return filesOf(t, p.next, p.node, 1, p.pairs)
}

// trip lays it out, with something on the disk that is not safe yet.
func (p parcel) trip(t *testing.T) trip {
	t.Helper()
	x := trek(t, p.was, p.next, p.node, fleet(t, p.was, 1, p.pairs, home))
	x.toDir = p.toDir
	put(t, x.to, "store/a/file", "old")
	safe(t, x.to)
	put(t, x.to, "new", "bytes")
	done(t, x.to.Append("store/a/file", "er"))
	return x
}

// With the disk armed with each number of acts, just the first of these are done, whatever survives of them then.
func TestActs(t *testing.T) {
	for _, p := range parcels() {
		all := deedsOf(p.toDir, p.parent, p.files(t))
		for k := range len(all) + 2 {
			for keep := 0; ; keep++ {
				x, twin := p.trip(t), p.trip(t).to
				before := x.to.Acts()
				done(t, x.to.Arm(k))
				_, e := x.armed(t, k < len(all))
				want := api.OK
				if k < len(all) {
					want = api.ErrDown
				}
				if acts := x.to.Acts() - before; e != want || acts != min(k, len(all)) {
					t.Fatalf("%s, armed with %d: %d behind %d acts, want %d acts", p.what, k, e, acts, len(all))
				}
				for i, s := range all[:min(k, len(all))] {
					if e := s.on(twin); e != api.OK {
						t.Fatalf("%s: the act %d, %v, is refused: %d", p.what, i, s, e)
					}
				}
				pending := x.to.Pending()
				if pending != twin.Pending() || !slices.Equal(x.to.Dump(), twin.Dump()) {
					t.Fatalf("%s, behind %d acts: %d pending, want %d\n%v, want\n%v", p.what, k, pending, twin.Pending(), x.to.Dump(), twin.Dump())
				}
				x.to.Crash(keep, 3)
				twin.Crash(keep, 3)
				if !slices.Equal(x.to.Dump(), twin.Dump()) {
					t.Fatalf("%s, behind %d acts and a crash that %d survive:\n%v, want\n%v", p.what, k, keep, x.to.Dump(), twin.Dump())
				}
				if keep >= pending {
					break
				}
			}
		}
	}
}

// armed is a Carry in which the disk may go down: then toDir may be there beside the error.
func (x trip) armed(t *testing.T, goesDown bool) (api.Carried, api.Errno) {
	t.Helper()
	if !goesDown {
		return x.carry(t, "armed with enough")
	}
	told, e := Carry(x.was, x.next, x.version, x.node, x.from, x.dir, x.to, x.toDir)
	is(t, "beside the error", told, api.Carried{})
	is(t, "the disk is down", x.to.Down(), true)
	return told, e
}

// The acts are counted by hand too.
func TestActsCounted(t *testing.T) {
	for i, want := range []int{
		1 + 8*2 + 3 + 3 + 2,
		1 + 6*2 + 2*3 + 3 + 3 + 2,
		-1,
		1 + 2*3 + 3 + 3 + 2,
		1 + 2*2 + 3 + 3 + 2,
		1 + 3 + 3 + 2,
	} {
		p := parcels()[i]
		x := p.trip(t)
		before := x.to.Acts()
		x.carries(t, p.what, p.files(t))
		if acts := x.to.Acts() - before; want >= 0 {
			is(t, p.what, acts, want)
		} else if empty := emptyOf(p.files(t)); empty == 0 || empty > len(p.files(t))-4 {
			t.Errorf("%s: %d files of %d are empty", p.what, empty, len(p.files(t)))
		} else {
			is(t, p.what, acts, 1+3*len(p.files(t))-empty+2)
		}
	}
}

func emptyOf(files []api.Pair) int {
	return len(slices.DeleteFunc(slices.Clone(files), func(f api.Pair) bool { return f.Value != "" }))
}

// What is refused while the disk is up is swept away again.
func TestActsRefused(t *testing.T) {
	for _, y := range []struct {
		toDir string
		want  api.Errno
		acts  []deed
	}{
		{"no/x", api.ErrNone, nil},
		{"store/no/x", api.ErrNone, nil},
		{"a/b/c/d/e/f/g/h", api.ErrPath, []deed{{"mkdir", "a/b/c/d/e/f/g/h", ""}, {"remove", "a/b/c/d/e/f/g/h", ""}, {"syncdir", "a/b/c/d/e/f/g", ""}}}, // its files would have nine names
	} {
		ready := func() trip {
			x := trek(t, east(), west(), 1, fleet(t, east(), 1, chaff(), home))
			x.to, x.toDir = laid(t, "store/", "a/b/c/d/e/f/g/"), y.toDir
			return x
		}
		for k := -1; k < len(y.acts)+2; k++ {
			for keep := range 4 {
				x, twin := ready(), ready().to
				before := x.to.Acts()
				done(t, x.to.Arm(k))
				told, e := Carry(x.was, x.next, x.version, x.node, x.from, x.dir, x.to, x.toDir)
				is(t, y.toDir, told, api.Carried{})
				n := len(y.acts)
				if k == 0 && n > 0 {
					is(t, y.toDir+": armed with 0", e, api.ErrDown)
				} else {
					is(t, fmt.Sprint(y.toDir, ": armed with ", k), e, y.want) // whatever the Sweep answers
				}
				if k >= 0 {
					n = min(n, k)
				}
				for _, s := range y.acts[:n] {
					done(t, s.on(twin))
				}
				is(t, y.toDir+": acts", x.to.Acts()-before, n)
				is(t, y.toDir+": pending", x.to.Pending(), twin.Pending())
				same(t, y.toDir, x.to.Dump(), twin.Dump())
				x.to.Crash(keep, 0)
				twin.Crash(keep, 0)
				same(t, y.toDir, x.to.Dump(), twin.Dump())
			}
		}
	}
}

// All that is read is read ahead of the first act: as often where that takes the disk down as where all are done.
func TestReadAhead(t *testing.T) {
	pairs := data(12, "")
	for node := range 4 {
		all := fleet(t, east(), 1, pairs, home)
		for i, d := range all {
			x := trip{east(), west(), 1, node, all, home, d, goal}
			reads := func(call func()) (counts [3]int) {
				for i, d := range all {
					counts[i] = -d.Reads()
				}
				call()
				for i, d := range all {
					counts[i] += d.Reads()
				}
				return counts
			}
			done(t, d.Arm(0))
			broken := reads(func() {
				_, e := x.armed(t, true)
				is(t, "armed with 0", e, api.ErrDown)
			})
			d.Crash(0, 0)
			whole := reads(func() {
				_, e := x.carry(t, "whole")
				is(t, "whole", e, api.OK)
			})
			is(t, fmt.Sprintf("node %d, to the disk %d", node, i), whole, broken)
		}
	}
}

// On the disks that give there is no act, though they are as good for one as the other.
func TestGiversAreLeft(t *testing.T) {
	from := fleet(t, east(), 1, data(12, ""), home)
	for _, d := range from {
		put(t, d, "new", "not safe")
		done(t, d.Arm(0))
	}
	for node := range 4 {
		x := trek(t, east(), west(), node, from)
		x.carries(t, "from disks that are armed", filesOf(t, west(), node, 1, data(12, "")))
	}
	for i, d := range from {
		is(t, fmt.Sprint("the disk ", i), d.Down(), false)
		is(t, fmt.Sprint("the disk ", i), d.Pending(), 2)
	}
}
