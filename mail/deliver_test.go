package mail

import (
	"slices"
	"testing"

	"granary/api"
)

// P13.4

// beside are numbers of no letter, if n are in flight.
func beside(n int) []int { return []int{leastInt, -n - 1, -2, -1, n, n + 1, 1024, 1 << 32, mostInt} }

func TestDeliverNone(t *testing.T) {
	for n := range 6 {
		m := partly(t, 6, n)
		want := m.Flying()
		for _, i := range beside(n) {
			notDelivered(t, m, i, api.ErrNoLetter)
		}
		holds(t, m, n, want...)
	}
}

// The letters are counted by what is in flight, not by their numbers.
func TestDeliverEachPlace(t *testing.T) {
	for n := 1; n <= 6; n++ {
		for i := range n {
			m := filled(t, n)
			want := m.Flying()
			deliverIs(t, m, i, want[i], api.OK)
			left := slices.Delete(slices.Clone(want), i, i+1)
			holds(t, m, n, left...)
			for j := range left {
				deliverIs(t, m, 0, left[j], api.OK)
			}
			holds(t, m, n)
			notDelivered(t, m, 0, api.ErrNoLetter)
		}
	}
}

func TestDeliverInAnyOrder(t *testing.T) {
	m := filled(t, 5)
	deliverIs(t, m, 4, lettersOf(5)[0], api.OK)
	deliverIs(t, m, 1, lettersOf(2)[0], api.OK)
	deliverIs(t, m, 1, lettersOf(3)[0], api.OK)
	notDelivered(t, m, 2, api.ErrNoLetter)
	deliverIs(t, m, 1, lettersOf(4)[0], api.OK)
	deliverIs(t, m, 0, lettersOf(1)[0], api.OK)
	holds(t, m, 5)
}

// A letter over a cut link stays, may be dropped and copied, and comes when the link is healed.
func TestDeliverOverACutLink(t *testing.T) {
	m := made(t, 5)
	sendIs(t, m, 0, 1, "there", 1, api.OK)
	sendIs(t, m, 0, 2, "else", 2, api.OK)
	sendIs(t, m, 1, 0, "back", 3, api.OK)
	cutIs(t, m, 1, 0, api.OK)
	for range 3 {
		notDelivered(t, m, 0, api.ErrCut)
		notDelivered(t, m, 2, api.ErrCut)
		holds(t, m, 3, letter(1, 0, 1, "there"), letter(2, 0, 2, "else"), letter(3, 1, 0, "back"))
	}
	copyIs(t, m, 2, api.OK)
	notDelivered(t, m, 3, api.ErrCut)
	dropIs(t, m, 0, api.OK)
	deliverIs(t, m, 0, letter(2, 0, 2, "else"), api.OK)
	holds(t, m, 4, letter(3, 1, 0, "back"), letter(4, 1, 0, "back"))
	healIs(t, m, 0, 1, api.OK)
	deliverIs(t, m, 1, letter(4, 1, 0, "back"), api.OK)
	deliverIs(t, m, 0, letter(3, 1, 0, "back"), api.OK)
	holds(t, m, 4)
}

// No such letter is told ahead of a cut link, even where every letter's is.
func TestDeliverErrorsInOrder(t *testing.T) {
	m := filled(t, 2)
	cutIs(t, m, 0, 1, api.OK)
	for _, i := range beside(2) {
		notDelivered(t, m, i, api.ErrNoLetter)
	}
	notDelivered(t, m, 0, api.ErrCut)
	notDelivered(t, m, 1, api.ErrCut)
	holds(t, m, 2, lettersOf(1, 2)...)
}

func TestDeliverMakesRoom(t *testing.T) {
	m := filled(t, 1)
	for id := 1; id < 2000; id++ {
		sendIs(t, m, 2, 3, "", 0, api.ErrCrowd)
		is(t, "Count", m.Count(), 1)
		got, e := m.Deliver(0)
		is(t, "Deliver", e, api.OK)
		is(t, "Deliver", got.Id, id)
		sendIs(t, m, 2, 3, "", id+1, api.OK)
	}
}
