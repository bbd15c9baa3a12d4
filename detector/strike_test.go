package detector

import (
	"testing"

	"granary/api"
)

// P16.3

// Just the strike that bans, and the ones beside it, whatever they are counted up to.
func TestTheStrikeThatBans(t *testing.T) {
	for strikes := 1; strikes <= 64; strikes++ {
		d := made(t, 4, strikes, 3)
		for n := 1; n <= strikes+2; n++ {
			badIs(t, d, 2, api.OK)
			if n < strikes {
				hushed(t, d, 4)
			} else {
				hushed(t, d, 4, 2)
			}
		}
		endsIn(t, d, 2, 3)
	}
}

// Strikes are in a row by node: what other nodes do is nothing to it, and ticks between them neither.
func TestStrikesAreANodesOwn(t *testing.T) {
	d := made(t, 3, 3, 4)
	for range 2 {
		for node := range 3 {
			badIs(t, d, node, api.OK)
			tickIs(t, d, api.OK)
		}
	}
	hushed(t, d, 3)
	goodIs(t, d, 1, api.OK)
	wait(t, d, 2000)
	strike(t, d, 0, 1)
	hushed(t, d, 3, 0)
	strike(t, d, 1, 2)
	hushed(t, d, 3, 0)
	strike(t, d, 2, 1)
	hushed(t, d, 3, 0, 2)
	strike(t, d, 1, 1)
	hushed(t, d, 3, 0, 1, 2)
}

// A Good between strikes: they are no longer in a row.
func TestGoodBreaksTheRow(t *testing.T) {
	for _, strikes := range []int{2, 3, 10, 64} {
		for before := range strikes {
			d := made(t, 2, strikes, 5)
			strike(t, d, 0, before)
			goodIs(t, d, 0, api.OK)
			strike(t, d, 0, strikes-1)
			hushed(t, d, 2)
			strike(t, d, 0, 1)
			hushed(t, d, 2, 0)
			endsIn(t, d, 0, 5)
		}
	}
}

// A Bad within a ban: its end moves, by as much as there is time behind the last one.
func TestBadWithinABan(t *testing.T) {
	for _, ban := range []int{1, 2, 5, 1024} {
		for _, later := range []int{0, 1, ban / 2, ban - 1} {
			d := made(t, 2, 2, ban)
			strike(t, d, 1, 2)
			wait(t, d, min(later, ban-1))
			silentIs(t, d, 1, true, api.OK)
			strike(t, d, 1, 1)
			endsIn(t, d, 1, ban)
			hushed(t, d, 2)
		}
	}
}

// One Bad after the other within bans: the node is silent all the while.
func TestBadAtEveryTick(t *testing.T) {
	d := made(t, 2, 3, 2)
	strike(t, d, 0, 2)
	for range 50 {
		strike(t, d, 0, 1)
		hushed(t, d, 2, 0)
		wait(t, d, 1)
		hushed(t, d, 2, 0)
	}
	endsIn(t, d, 0, 1)
}

// Behind the end of a ban the strikes are still there: one more is enough.
func TestBadBehindABan(t *testing.T) {
	for _, strikes := range []int{1, 2, 10, 64} {
		for _, later := range []int{0, 1, 2, 1000} {
			d := made(t, 3, strikes, 5)
			strike(t, d, 2, strikes)
			for range 4 {
				endsIn(t, d, 2, 5)
				wait(t, d, later)
				hushed(t, d, 3)
				strike(t, d, 2, 1)
				hushed(t, d, 3, 2)
			}
		}
	}
}

// A Good within a ban, behind one, or just at its end: the ban is over, and strikes are counted from none on.
func TestGoodAndBans(t *testing.T) {
	for _, strikes := range []int{1, 2, 5, 64} {
		for _, more := range []int{0, 1, 70} {
			for _, later := range []int{0, 1, 4, 5, 6, 100} {
				d := made(t, 3, strikes, 5)
				strike(t, d, 1, strikes+more)
				wait(t, d, later)
				goodIs(t, d, 1, api.OK)
				hushed(t, d, 3)
				strike(t, d, 1, strikes-1)
				hushed(t, d, 3)
				strike(t, d, 1, 1)
				hushed(t, d, 3, 1)
				endsIn(t, d, 1, 5)
			}
		}
	}
}

// A Good of a node without strikes does nothing, also where but one other node has some.
func TestGoodWithoutStrikes(t *testing.T) {
	for _, struck := range [][]int{{}, {0}, {2}, {0, 2}} {
		d := made(t, 4, 2, 5)
		for _, node := range struck {
			strike(t, d, node, 2)
		}
		stays(t, d, func() {
			for range 3 {
				goodIs(t, d, 1, api.OK)
				goodIs(t, d, 3, api.OK)
			}
		})
		hushed(t, d, 4, struck...)
		goodIs(t, d, 0, api.OK)
		stays(t, d, func() { goodIs(t, d, 0, api.OK) })
	}
}

// A Good is of one node: the others keep their strikes and their bans.
func TestGoodLeavesTheOthers(t *testing.T) {
	for _, good := range orders(upto(4)) {
		d := made(t, 4, 2, 9)
		strike(t, d, 0, 2)
		strike(t, d, 1, 1)
		wait(t, d, 3)
		strike(t, d, 2, 3)
		strike(t, d, 3, 1)
		left := map[int]bool{0: true, 1: true, 2: true, 3: true}
		for _, node := range good {
			goodIs(t, d, node, api.OK)
			delete(left, node)
			for other := range 4 {
				silentIs(t, d, other, left[other] && other%2 == 0, api.OK)
			}
		}
		strike(t, d, 1, 1)
		hushed(t, d, 4)
	}
}

// A Good that takes away the last entry that there is: of each node, with strikes alone or with a ban, and what comes behind it.
func TestGoodOfTheLast(t *testing.T) {
	for node := range 3 {
		for _, times := range []int{1, 2, 3} {
			d := made(t, 3, 2, 5)
			for round := range 5 {
				strike(t, d, node, times)
				wait(t, d, round)
				goodIs(t, d, node, api.OK)
				is(t, "strikes that are kept", len(d.strikes), 0)
				is(t, "bans that are kept", len(d.ends), 0)
				hushed(t, d, 3)
				orderIs(t, d, []int{2, 1, 0}, []int{2, 1, 0})
			}
			for other := range 3 {
				strike(t, d, other, 1)
				hushed(t, d, 3)
			}
			strike(t, d, 1, 1)
			hushed(t, d, 3, 1)
			endsIn(t, d, 1, 5)
		}
	}
}

// A node without strikes has no entry, whatever it had.
func TestForgotten(t *testing.T) {
	d := made(t, 16, 3, 5)
	stays(t, d, func() {
		hushed(t, d, 16)
		orderIs(t, d, upto(16), upto(16))
	})
	for node := range 16 {
		strike(t, d, node, node%5+1)
		is(t, "strikes that are kept", len(d.strikes), node+1)
	}
	for i := range 16 {
		goodIs(t, d, (5*i+3)%16, api.OK)
		is(t, "strikes that are kept", len(d.strikes), 15-i)
		for node := range d.ends {
			if d.strikes[node] == 0 {
				t.Errorf("node %d has a ban without strikes", node)
			}
		}
	}
	is(t, "bans that are kept", len(d.ends), 0)
}
