package rebalance

import (
	"fmt"
	"slices"
	"strings"
	"testing"

	"granary/api"
	"granary/disk"
	"granary/fetch"
)

// P23.11

// lessThan tells whether a directory holds the whole or less of it: some of the files, of each some of the first bytes.
func lessThan(list, whole []api.Pair) bool {
	for _, f := range list {
		at := slices.IndexFunc(whole, func(g api.Pair) bool { return g.Key == f.Key })
		if at < 0 || !strings.HasPrefix(whole[at].Value, f.Value) {
			return false
		}
	}
	return true
}

// behind holds what a crash may leave, and that a Sweep and a Carry again make it whole; without a Sweep it is refused, if something is there.
func behind(t *testing.T, what string, x trip, whole []api.Pair, others []api.Stored, told api.Carried) {
	t.Helper()
	if !slices.Equal(beside(x.to, x.toDir), others) {
		t.Fatalf("%s: something else is on the disk than was: %v", what, x.to.Dump())
	}
	if list := under(x.to, x.toDir); !lessThan(list, whole) {
		t.Fatalf("%s: %q", what, list)
	}
	if has(x.to, x.toDir) {
		x.refuses(t, what+": again without a Sweep", api.ErrThere)
	}
	done(t, fetch.Sweep(x.to, x.toDir))
	is(t, what+": again", x.carries(t, what+": again", whole), told)
	x.to.Crash(0, 0)
	if !slices.Equal(beside(x.to, x.toDir), others) {
		t.Fatalf("%s: something else is on the disk behind the second Carry: %v", what, x.to.Dump())
	}
	filesAre(t, what+": behind a crash that takes all it can", x.to, x.toDir, whole)
}

// tornAt are the numbers of a next Append's bytes that may survive.
var tornAt = []int{0, 1, 3, 50, 98, mostInt}

func TestBrokenOff(t *testing.T) {
	for _, p := range parcels() {
		ready := func() trip {
			x := p.trip(t)
			safe(t, x.to)
			return x
		}
		x := ready()
		others, before := x.to.Dump(), x.to.Acts()
		told := x.carries(t, p.what, p.files(t))
		all := x.to.Acts() - before
		seen := map[string]int{}
		for k := range all + 1 {
			for keep, pending := 0, 0; keep <= pending; keep++ {
				var last []api.Stored
				for i, torn := range tornAt {
					x := ready()
					done(t, x.to.Arm(k))
					if _, e := x.armed(t, k < all); (e == api.OK) != (k == all) {
						t.Fatalf("%s: %d acts of %d: %d", p.what, k, all, e)
					}
					pending = x.to.Pending()
					x.to.Crash(keep, torn)
					if i > 0 && slices.Equal(x.to.Dump(), last) {
						continue
					}
					last = x.to.Dump()
					list := under(x.to, x.toDir)
					switch {
					case !has(x.to, x.toDir):
						seen["nothing"]++
					case slices.Equal(list, p.files(t)):
						seen["the whole"]++
					default:
						seen["less"]++
					}
					behind(t, fmt.Sprintf("%s: %d acts of %d, %d changes of %d and %d bytes survive", p.what, k, all, keep, pending, torn), x, p.files(t), others, told)
				}
			}
		}
		if seen["nothing"] == 0 || seen["less"] == 0 || seen["the whole"] == 0 {
			t.Errorf("%s: %v", p.what, seen)
		}
	}
}

// Behind a Carry that answered OK nothing of it can be lost, whatever else goes on upon the disk.
func TestSafeBehindOK(t *testing.T) {
	for _, p := range parcels() {
		for keep := range 4 {
			x := p.trip(t)
			is(t, p.what+": pending ahead", x.to.Pending(), 3)
			x.carries(t, p.what, p.files(t))
			put(t, x.to, "more", "x")
			x.to.Crash(keep, 0)
			filesAre(t, p.what, x.to, x.toDir, p.files(t))
		}
	}
}

// A Sweep and a Carry that follow a crash are broken off too, again and again, till they are not.
func TestBrokenOffAgain(t *testing.T) {
	lot := dice(2311)
	for i := range 300 {
		p := parcels()[lot.roll(len(parcels()))]
		x := p.trip(t)
		safe(t, x.to)
		others := x.to.Dump()
		told, e := api.Carried{}, api.ErrDown
		for tries := 0; e != api.OK; tries++ {
			if tries < 12 {
				done(t, x.to.Arm(lot.roll(oneOf(&lot, 6, 30, 60))))
			} else if tries > 12 {
				t.Fatalf("lot %d, %s: refused where nothing breaks it off: %d", i, p.what, e)
			}
			if e = fetch.Sweep(x.to, x.toDir); e == api.OK {
				told, e = Carry(x.was, x.next, x.version, x.node, x.from, x.dir, x.to, x.toDir)
			}
			if e != api.OK {
				is(t, p.what, e, api.ErrDown)
			}
			x.to.Crash(lot.roll(x.to.Pending()+1), lot.roll(100))
			if !slices.Equal(beside(x.to, x.toDir), others) || !lessThan(under(x.to, x.toDir), p.files(t)) {
				t.Fatalf("lot %d, %s: %v", i, p.what, x.to.Dump())
			}
		}
		is(t, p.what, told.Files, len(p.files(t)))
		filesAre(t, p.what, x.to, x.toDir, p.files(t))
	}
}

// The disk to may give too: what it gives is as it was behind each crash.
func TestGiverBrokenOff(t *testing.T) {
	pairs := data(6, "")
	whole := filesOf(t, west(), 3, 1, pairs)
	told := api.Carried{Slots: 2, Files: 10, Bytes: sizeOf(whole)}
	all := len(deedsOf(goal, "store", whole))
	for k := range all + 1 {
		for keep := range 3 {
			from := fleet(t, east(), 1, pairs, home)
			x := trip{east(), west(), 1, 3, from, home, from[0], goal}
			others := x.to.Dump()
			done(t, x.to.Arm(k))
			_, e := x.armed(t, k < all)
			is(t, "armed", e == api.OK, k == all)
			x.to.Crash(keep, 0)
			behind(t, fmt.Sprint(k, " acts, to a giver"), x, whole, others, told)
		}
	}
}

// The disks that give are down or gone behind the crash, but for one owner each.
func TestAgainFromOthers(t *testing.T) {
	pairs := data(20, "")
	for _, k := range []int{0, 1, 7, 20} {
		all := fleet(t, east(), 1, pairs, home)
		x := trek(t, east(), west(), 3, all)
		done(t, x.to.Arm(k))
		_, e := x.armed(t, true)
		is(t, "broken off", e, api.ErrDown)
		x.to.Crash(k/2, 0)
		done(t, fetch.Sweep(x.to, goal))
		x.from = []*disk.Disk{nil, all[1], all[2]}
		x.carries(t, "without node 0", filesOf(t, west(), 3, 1, pairs))
	}
}
