package mail

import (
	"slices"
	"testing"

	"granary/api"
)

// P13.3

func TestFlyingIsInOrder(t *testing.T) {
	m := made(t, 10)
	holds(t, m, 0)
	sendIs(t, m, 9, 1, "z", 1, api.OK)
	sendIs(t, m, 0, 67, "y", 2, api.OK)
	sendIs(t, m, 5, 5, "x", 3, api.OK)
	copyIs(t, m, 0, api.OK)
	sendIs(t, m, 3, 2, "", 5, api.OK)
	holds(t, m, 5, letter(1, 9, 1, "z"), letter(2, 0, 67, "y"), letter(3, 5, 5, "x"), letter(4, 9, 1, "z"), letter(5, 3, 2, ""))
	dropIs(t, m, 2, api.OK)
	sendIs(t, m, 5, 5, "w", 6, api.OK)
	holds(t, m, 6, letter(1, 9, 1, "z"), letter(2, 0, 67, "y"), letter(4, 9, 1, "z"), letter(5, 3, 2, ""), letter(6, 5, 5, "w"))
}

func TestLookingChangesNothing(t *testing.T) {
	m := filled(t, 3)
	for range 5 {
		holds(t, m, 3, lettersOf(1, 2, 3)...)
	}
}

// A link that is cut does not hide what is in flight over it.
func TestFlyingOverACutLink(t *testing.T) {
	m := filled(t, 2)
	cutIs(t, m, 0, 1, api.OK)
	holds(t, m, 2, lettersOf(1, 2)...)
}

// spoil writes over a list and over the spare room behind it.
func spoil(list []api.Letter) {
	whole := list[:cap(list)]
	for i := range whole {
		whole[i] = letter(-9, -9, -9, "spoilt")
	}
	_ = append(list, letter(-8, -8, -8, "more"))
}

func TestFlyingIsNewMemory(t *testing.T) {
	for n := range 9 {
		m := partly(t, 10, n)
		want := m.Flying()
		spoil(m.Flying())
		holds(t, m, n, want...)
		one, other := m.Flying(), m.Flying()
		spoil(one)
		if !slices.Equal(other, want) {
			t.Errorf("%d letters: two lists share memory: %v", n, other)
		}
		sendIs(t, m, 0, 1, frameOf(n), n+1, api.OK) // into what the list would share as its spare room
		spoil(other)
		holds(t, m, n+1, append(want, letter(n+1, 0, 1, frameOf(n)))...)
	}
}

// Behind a letter that was taken out there is spare room in the mail's own list.
func TestFlyingBehindDropIsNewMemory(t *testing.T) {
	m := filled(t, 4)
	dropIs(t, m, 0, api.OK)
	dropIs(t, m, 0, api.OK)
	list := m.Flying()
	sendIs(t, m, 0, 1, "e", 5, api.OK)
	spoil(list)
	holds(t, m, 5, lettersOf(3, 4, 5)...)
	for range 3 {
		dropIs(t, m, 0, api.OK)
	}
	list = m.Flying()
	sendIs(t, m, 0, 1, "f", 6, api.OK)
	spoil(list)
	holds(t, m, 6, lettersOf(6)...)
}

// Whoever holds a list sees what was in flight when he asked.
func TestFlyingStays(t *testing.T) {
	m := filled(t, 4)
	dropIs(t, m, 3, api.OK)
	held := m.Flying()
	want := lettersOf(1, 2, 3)
	for _, later := range []func(){
		func() { sendIs(t, m, 5, 6, "other", 5, api.OK) },
		func() { dropIs(t, m, 0, api.OK) },
		func() { copyIs(t, m, 1, api.OK) },
		func() { deliverIs(t, m, 0, lettersOf(2)[0], api.OK) },
		func() { cutIs(t, m, 0, 1, api.OK) },
		func() { dropIs(t, m, 0, api.OK) },
		func() { sendIs(t, m, 7, 8, "more", 7, api.OK) },
	} {
		later()
		if !slices.Equal(held, want) {
			t.Fatalf("a list that was held is %v now", held)
		}
	}
}

// What is gone takes no room: neither its frame nor a link that was healed.
func TestForgotten(t *testing.T) {
	m := filled(t, 20)
	for i := 19; i >= 0; i-- {
		dropIs(t, m, i/2, api.OK)
		for _, left := range m.flight.things[i:cap(m.flight.things)] {
			is(t, "a place that fell free", left, api.Letter{})
		}
	}
	for i := range 67 {
		cutIs(t, m, i, 67, api.OK)
		cutIs(t, m, 67, i, api.OK)
		healIs(t, m, i, 67, api.OK)
		healIs(t, m, (i+1)%67, 67, api.OK)
		m.Send(i, 67, "")
		m.Drop(0)
	}
	is(t, "links that are kept", len(m.cut), 0)
}
