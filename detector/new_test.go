package detector

import (
	"testing"

	"granary/api"
)

// P16.1

// Each of the three numbers at its ends, past them and far from them, together with each of the others.
func TestNew(t *testing.T) {
	wrong := []int{leastInt, -1 << 32, -1025, -17, -1, 0, 1 << 32, mostInt}
	for _, nodes := range append(wrong, 1, 2, 15, 16, 17, 18) {
		for _, strikes := range append(wrong, 1, 2, 63, 64, 65, 66) {
			for _, ban := range append(wrong, 1, 2, 1023, 1024, 1025, 1026) {
				want := api.OK
				if nodes < 1 || nodes > 16 || strikes < 1 || strikes > 64 || ban < 1 || ban > 1024 {
					want = api.ErrArg
				}
				if d, e := New(nodes, strikes, ban); e != want || (d != nil) != (want == api.OK) {
					t.Errorf("New(%d, %d, %d) = %v, %d, want %d", nodes, strikes, ban, d != nil, e, want)
				}
			}
		}
	}
}

// At first there are just so many nodes, and none is silent.
func TestNewThinksNoNodeSilent(t *testing.T) {
	for nodes := 1; nodes <= 16; nodes++ {
		for _, x := range [][2]int{{1, 1}, {1, 1024}, {64, 1}, {64, 1024}} {
			d := made(t, nodes, x[0], x[1])
			hushed(t, d, nodes)
			orderIs(t, d, upto(nodes), upto(nodes))
			for _, node := range beside(nodes) {
				silentIs(t, d, node, false, api.ErrNode)
			}
		}
	}
}

// Which number is which: the strikes that ban, and the ticks of a ban.
func TestNewTakesItsNumbers(t *testing.T) {
	for _, nodes := range []int{1, 2, 16} {
		for _, strikes := range []int{1, 2, 5, 63, 64} {
			for _, ban := range []int{1, 2, 5, 1023, 1024} {
				d, node := made(t, nodes, strikes, ban), nodes-1
				strike(t, d, node, strikes-1)
				silentIs(t, d, node, false, api.OK)
				strike(t, d, node, 1)
				endsIn(t, d, node, ban)
				badIs(t, d, nodes, api.ErrNode)
			}
		}
	}
}

func TestTwoDetectors(t *testing.T) {
	one, other := made(t, 3, 2, 5), made(t, 3, 2, 5)
	strike(t, one, 0, 2)
	stays(t, other, func() {
		strike(t, one, 1, 3)
		wait(t, one, 2)
		strike(t, one, 2, 1)
		goodIs(t, one, 1, api.OK)
	})
	hushed(t, other, 3)
	strike(t, other, 0, 1)
	hushed(t, other, 3)
	strike(t, other, 0, 1)
	hushed(t, other, 3, 0)
	hushed(t, one, 3, 0)
	goodIs(t, other, 0, api.OK) // the last entry that there is, in this one
	hushed(t, other, 3)
	hushed(t, one, 3, 0)
	endsIn(t, one, 0, 3)
	strike(t, one, 2, 1)
	hushed(t, one, 3, 2)
	hushed(t, other, 3)
}

// P16.2

// A detector that New did not make is answered as one that is not there.
func TestNoDetector(t *testing.T) {
	numbers := []int{leastInt, -1, 0, 1, 15, 16, mostInt}
	for what, d := range map[string]*Detector{"nil": nil, "not made": new(Detector)} {
		for range 3 {
			notOrdered(t, d, nil, api.ErrNil)
			notOrdered(t, d, []int{}, api.ErrNil)
			notOrdered(t, d, numbers, api.ErrNil)
			for _, node := range numbers {
				goodIs(t, d, node, api.ErrNil)
				badIs(t, d, node, api.ErrNil)
				silentIs(t, d, node, false, api.ErrNil)
				notOrdered(t, d, []int{node}, api.ErrNil)
				notOrdered(t, d, []int{0, node}, api.ErrNil)
			}
			tickIs(t, d, api.ErrNil)
		}
		if t.Failed() {
			t.Fatal(what)
		}
	}
}

// busy are detectors of n nodes at several places.
func busy(t *testing.T, n int) []*Detector {
	t.Helper()
	all := []*Detector{made(t, n, 1, 1), made(t, n, 2, 5), made(t, n, 2, 5), made(t, n, 2, 5), made(t, n, 2, 5)}
	strike(t, all[1], n-1, 1) // on its way to a ban
	strike(t, all[2], n-1, 2) // banned
	strike(t, all[3], 0, 2)
	wait(t, all[3], 5) // behind a ban
	strike(t, all[4], 0, 3)
	wait(t, all[4], 1)
	strike(t, all[4], n-1, 2)
	return all
}

func TestNoNode(t *testing.T) {
	for _, n := range []int{1, 2, 3, 15, 16} {
		for _, d := range busy(t, n) {
			for _, node := range beside(n) {
				stays(t, d, func() {
					goodIs(t, d, node, api.ErrNode)
					badIs(t, d, node, api.ErrNode)
					silentIs(t, d, node, false, api.ErrNode)
					notOrdered(t, d, []int{node}, api.ErrNode)
				})
			}
			for _, node := range []int{0, n - 1} {
				if _, e := d.Silent(node); e != api.OK {
					t.Errorf("%d nodes: Silent(%d) = %d", n, node, e)
				}
				badIs(t, d, node, api.OK)
				goodIs(t, d, node, api.OK)
			}
		}
	}
}

// However often a node that is none fails, it is not silent, and no other node has a strike.
func TestNoNodeIsNeverSilent(t *testing.T) {
	d := made(t, 3, 2, 5)
	strike(t, d, 1, 1)
	for _, node := range beside(3) {
		for range 10 {
			badIs(t, d, node, api.ErrNode)
			silentIs(t, d, node, false, api.ErrNode)
		}
		goodIs(t, d, node, api.ErrNode)
		hushed(t, d, 3)
	}
	strike(t, d, 1, 1)
	hushed(t, d, 3, 1)
	strike(t, d, 0, 1)
	strike(t, d, 2, 1)
	hushed(t, d, 3, 1)
}
