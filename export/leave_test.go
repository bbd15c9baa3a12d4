package export

import (
	"fmt"
	"slices"
	"testing"

	"granary/api"
)

// Owners that are left, and what becomes of the partition.

// leaves lets the owner that is asked be left: for an error that it answers at once, for its silence, for an error at the last moment.
func leaves(t *testing.T, x *Export, r run, how, node, part, k int, want ...api.Msg) {
	t.Helper()
	switch how % 3 {
	case 0:
		takeIs(t, x, r.no(node, part, k, codes[how%len(codes)]), want...)
	case 1:
		wait(t, x, x.getWait-1)
		tickIs(t, x, want...)
	case 2:
		wait(t, x, x.getWait-1)
		takeIs(t, x, r.no(node, part, k, api.ErrOff), want...)
	}
}

// Left in the midst of a row, at every place of it: the next owner goes on at the same place, and so on; the pairs are told once each.
func TestTheNextGoesOnAtTheSamePlace(t *testing.T) {
	for first := range 6 {
		for second := first; second < 6; second++ {
			for how := range 9 {
				x := made(t, round(3, 3, 2))
				begins(t, x, one, 0)
				reads(t, x, one, 0, 0, 0, first)
				leaves(t, x, one, how, 0, 0, first, one.ask(1, 0, first))
				reads(t, x, one, 1, 0, first, second)
				leaves(t, x, one, how/3, 1, 0, second, one.ask(2, 0, second))
				reads(t, x, one, 2, 0, second, 6)
				takeIs(t, x, one.end(2, 0, 6), one.ask(1, 1, 0))
				idles(t, x)
				reportIs(t, x, one, crop(0, 6), 1, 2)
				if t.Failed() {
					t.Fatalf("left at %d and %d, %d", first, second, how)
				}
			}
		}
	}
}

// The owner that goes on may say that there are no more: what was read is the row.
func TestTheNextEndsAtOnce(t *testing.T) {
	for k := range 4 {
		x := begun(t)
		reads(t, x, one, 0, 0, 0, k)
		takeIs(t, x, one.no(0, 0, k, api.ErrOff), one.ask(1, 0, k))
		takeIs(t, x, one.end(1, 0, k), one.ask(1, 1, 0))
		idles(t, x)
		reportIs(t, x, one, crop(0, k), 1, 2, 3)
	}
}

// The last owner is left: the partition is missing, what was read of it is dropped, and the pairs of those ahead stay.
func TestTheLastIsLeft(t *testing.T) {
	for how := range 9 {
		for k := range 4 {
			x := begun(t)
			whole(t, x, one, 0, 0, 2, one.ask(1, 1, 0))
			reads(t, x, one, 1, 1, 0, k)
			leaves(t, x, one, how, 1, 1, k, one.ask(0, 1, k))
			reads(t, x, one, 0, 1, k, k+2)
			leaves(t, x, one, how/3, 0, 1, k+2, one.ask(2, 2, 0)) // at the place 0 again
			whole(t, x, one, 2, 2, 1, one.ask(2, 3, 0))
			whole(t, x, one, 2, 3, 0)
			reportIs(t, x, one, append(crop(0, 2), crop(2, 1)...), 1)
		}
	}
}

// The next partition is asked of the owners that were left at the last one again, and in its own row's order.
func TestOwnersAreAskedAgain(t *testing.T) {
	for how := range 9 {
		x := made(t, zoned(round(4, 3, 2), 1, 1, 0, 0, 1))
		rows := [][]int{{0, 1, 2}, {3, 1, 2}, {3, 0, 2}, {3, 0, 1}}
		begins(t, x, one, 0)
		for part, row := range rows {
			leaves(t, x, one, how, row[0], part, 0, one.ask(row[1], part, 0))
			leaves(t, x, one, how/3, row[1], part, 0, one.ask(row[2], part, 0))
			reads(t, x, one, row[2], part, 0, part)
			var next []api.Msg
			if part < 3 {
				next = []api.Msg{one.ask(rows[part+1][0], part+1, 0)}
			}
			if part%2 == 0 {
				takeIs(t, x, one.end(row[2], part, part), next...)
			} else {
				leaves(t, x, one, how, row[2], part, part, next...)
			}
		}
		reportIs(t, x, one, crop(2, 2), 1, 3)
	}
}

// Each set of partitions is missing: the first, the last, several, none, all; for each owner of them is left, in whatever way.
func TestMissing(t *testing.T) {
	for mask := range 32 {
		for how := range 3 {
			x := made(t, round(5, 2, 3))
			begins(t, x, one, 0)
			var want []api.Pair
			var missing []int
			for part := range 5 {
				var next []api.Msg
				if part < 4 {
					next = []api.Msg{one.ask(part+1, part+1, 0)}
				}
				reads(t, x, one, part, part, 0, part+1)
				if mask>>part&1 == 0 {
					takeIs(t, x, one.end(part, part, part+1), next...)
					want = append(want, crop(part, part+1)...)
					continue
				}
				leaves(t, x, one, how, part, part, part+1, one.ask((part+1)%5, part, part+1))
				leaves(t, x, one, how+1, (part+1)%5, part, part+1, next...)
				missing = append(missing, part)
			}
			reportIs(t, x, one, want, missing...)
			if t.Failed() {
				t.Fatalf("missing %05b, %d", mask, how)
			}
		}
	}
}

// Every pattern of what three owners do of a partition: it is missing just where all of them are left.
func TestOneOwnerIsEnough(t *testing.T) {
	for pattern := range 27 { // of each owner: it is silent, it answers an error, it answers
		x := made(t, round(3, 3, 2))
		list, e := x.Begin(7)
		var asked []int
		answers := -1
		for len(list) == 1 && list[0].Seq == 0 {
			m := list[0]
			is(t, "the call", e, api.OK)
			asked = append(asked, m.To)
			switch pattern / []int{1, 3, 9}[m.To] % 3 {
			case 0:
				wait(t, x, 1)
				list, e = x.Tick()
			case 1:
				list, e = x.Take(one.no(m.To, 0, 0, api.ErrAbsent))
			case 2:
				answers = m.To
				list, e = x.Take(one.end(m.To, 0, 0))
			}
		}
		if answers < 0 {
			same(t, "who was asked", asked, []int{0, 1, 2})
		} else {
			same(t, "who was asked", asked, upto(answers+1))
		}
		idles(t, x)
		r, _ := x.Report()
		is(t, fmt.Sprint("missing, ", pattern), slices.Contains(r.Missing, 0), answers < 0)
	}
}

// An owner that is left in the midst of the most pairs.
func TestLeftNearTheMostPairs(t *testing.T) {
	for _, k := range []int{510, 511, 512} {
		x := begun(t)
		reads(t, x, one, 0, 0, 0, k)
		wait(t, x, 1)
		tickIs(t, x, one.ask(1, 0, k))
		reads(t, x, one, 1, 0, k, 512)
		takeIs(t, x, one.end(1, 0, 512), one.ask(1, 1, 0))
		idles(t, x)
		reportIs(t, x, one, crop(0, 512), 1, 2, 3)
	}
}
