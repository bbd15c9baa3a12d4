package detector

import (
	"testing"

	"granary/api"
)

// P16.4

// Just the tick at which a ban ends, and the ones beside it, whenever it began.
func TestTheTickThatEndsABan(t *testing.T) {
	for _, ban := range []int{1, 2, 3, 10, 1023, 1024} {
		for _, start := range []int{0, 1, 2, 1000} {
			d := made(t, 3, 1, ban)
			wait(t, d, start)
			hushed(t, d, 3)
			badIs(t, d, 1, api.OK)
			for range ban {
				hushed(t, d, 3, 1)
				tickIs(t, d, api.OK)
			}
			for range 3 {
				hushed(t, d, 3)
				tickIs(t, d, api.OK)
			}
		}
	}
}

// Each ban ends at its own tick.
func TestBansEndOneByOne(t *testing.T) {
	d := made(t, 4, 1, 4)
	for node := range 4 {
		badIs(t, d, node, api.OK)
		tickIs(t, d, api.OK)
	}
	for node := range 4 {
		left := upto(4)[node+1:]
		hushed(t, d, 4, left...)
		tickIs(t, d, api.OK)
	}
	hushed(t, d, 4)
}

func TestBansEndTogether(t *testing.T) {
	d := made(t, 3, 2, 7)
	strike(t, d, 2, 2)
	strike(t, d, 0, 5)
	wait(t, d, 6)
	hushed(t, d, 3, 0, 2)
	wait(t, d, 1)
	hushed(t, d, 3)
}

// A tick takes no strike away, and gives none.
func TestTicksLeaveTheStrikes(t *testing.T) {
	d := made(t, 2, 3, 5)
	wait(t, d, 5000)
	hushed(t, d, 2)
	strike(t, d, 0, 2)
	wait(t, d, 5000)
	hushed(t, d, 2)
	strike(t, d, 0, 1)
	endsIn(t, d, 0, 5)
}

// Silent and Order change nothing, wherever they stand between the other calls: two are told the same, one is asked all the while.
func TestAskingChangesNothing(t *testing.T) {
	lot := dice(16)
	for range 300 {
		nodes, strikes, ban := 1+lot.roll(5), 1+lot.roll(3), 1+lot.roll(6)
		asked, other := made(t, nodes, strikes, ban), made(t, nodes, strikes, ban)
		for range 60 {
			stays(t, asked, func() { askAll(asked, nodes) })
			do, node := lot.roll(4), lot.roll(nodes+2)-1
			is(t, "the answer", call(asked, do, node), call(other, do, node))
			is(t, "what it knows", kept(asked), kept(other))
		}
		if t.Failed() {
			t.Fatalf("New(%d, %d, %d)", nodes, strikes, ban)
		}
	}
}

// askAll asks for all that can be asked for, and for some that cannot.
func askAll(d *Detector, nodes int) {
	for node := -1; node <= nodes; node++ {
		d.Silent(node)
		d.Order(node)
	}
	d.Order()
	d.Order(upto(nodes)...)
	d.Order(append(upto(nodes), upto(nodes+1)...)...)
}

// call does one of the calls that change something.
func call(d *Detector, do, node int) api.Errno {
	switch do {
	case 0:
		return d.Good(node)
	case 1:
		return d.Tick()
	}
	return d.Bad(node)
}
