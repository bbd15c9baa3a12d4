package detector

import (
	"testing"

	"granary/api"
)

// R5: calls drawn by lot are held against the plain reading, so each answer hangs on the calls ahead of it alone.

// someNode draws a node, and now and then a number of none.
func someNode(lot *dice, nodes int) int {
	if lot.roll(15) == 0 {
		return oneOf(lot, leastInt, -1, nodes, nodes+1, mostInt)
	}
	return lot.roll(nodes)
}

func callBoth(t *testing.T, lot *dice, d *Detector, r *reading) {
	t.Helper()
	node := someNode(lot, r.nodes)
	switch lot.roll(12) {
	case 0:
		goodIs(t, d, node, r.good(node))
	case 1, 2, 3, 4:
		badIs(t, d, node, r.bad(node))
	case 5, 6, 7:
		tickIs(t, d, r.tick())
	case 8, 9:
		silent, e := r.silent(node)
		silentIs(t, d, node, silent, e)
	default:
		var given []int
		for range lot.roll(2*r.nodes + 1) {
			given = append(given, lot.roll(r.nodes))
		}
		if lot.roll(4) == 0 {
			given = append(given, node)
		}
		if want, e := r.order(given); e == api.OK {
			orderIs(t, d, given, want)
		} else {
			notOrdered(t, d, given, e)
		}
	}
}

func TestDetectorsByLot(t *testing.T) {
	lot := dice(16)
	for range 2000 {
		nodes := oneOf(&lot, 0, 1, 2, 3, 5, 16, 17)
		strikes := oneOf(&lot, 0, 1, 2, 3, 7, 65)
		ban := oneOf(&lot, 0, 1, 2, 5, 20, 1024, 1025)
		d, e := New(nodes, strikes, ban)
		r, want := readNew(nodes, strikes, ban)
		if e != want || (d != nil) != (r != nil) {
			t.Fatalf("New(%d, %d, %d) = %v, %d, want %d", nodes, strikes, ban, d != nil, e, want)
		}
		for range 150 {
			if d != nil {
				callBoth(t, &lot, d, r)
			}
		}
		if t.Failed() {
			t.Fatalf("New(%d, %d, %d)", nodes, strikes, ban)
		}
	}
}

// Two in turns, and each as if it were alone.
func TestTwoByLot(t *testing.T) {
	lot := dice(61)
	for range 300 {
		var ds [2]*Detector
		var rs [2]*reading
		for i := range 2 {
			nodes, strikes, ban := 1+lot.roll(4), 1+lot.roll(3), 1+lot.roll(8)
			ds[i] = made(t, nodes, strikes, ban)
			rs[i], _ = readNew(nodes, strikes, ban)
		}
		for range 200 {
			i := lot.roll(2)
			stays(t, ds[1-i], func() { callBoth(t, &lot, ds[i], rs[i]) })
		}
		if t.Failed() {
			t.FailNow()
		}
	}
}
