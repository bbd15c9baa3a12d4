package mail

import (
	"slices"
	"testing"

	"granary/api"
)

// P13.5

func TestDropAndCopyNone(t *testing.T) {
	for n := range 6 {
		m := partly(t, 6, n)
		want := m.Flying()
		for _, i := range beside(n) {
			dropIs(t, m, i, api.ErrNoLetter)
			copyIs(t, m, i, api.ErrNoLetter)
		}
		holds(t, m, n, want...)
	}
}

func TestDropEachPlace(t *testing.T) {
	for n := 1; n <= 6; n++ {
		for i := range n {
			m := filled(t, n)
			want := slices.Delete(m.Flying(), i, i+1)
			dropIs(t, m, i, api.OK)
			holds(t, m, n, want...)
			dropIs(t, m, n-1, api.ErrNoLetter)
			sendIs(t, m, 4, 5, "new", n+1, api.OK)
			holds(t, m, n+1, append(want, letter(n+1, 4, 5, "new"))...)
		}
	}
}

func TestCopyEachPlace(t *testing.T) {
	for n := 1; n <= 6; n++ {
		for i := range n {
			m := made(t, n+2)
			for j := range n {
				sendIs(t, m, j, 67-j, frameOf(j), j+1, api.OK)
			}
			want := append(m.Flying(), letter(n+1, i, 67-i, frameOf(i)), letter(n+2, i, 67-i, frameOf(i)))
			copyIs(t, m, i, api.OK)
			holds(t, m, n+1, want[:n+1]...)
			copyIs(t, m, n, api.OK) // the copy's copy
			holds(t, m, n+2, want...)
			copyIs(t, m, i, api.ErrCrowd)
			holds(t, m, n+2, want...)
		}
	}
}

// A copy is a letter of its own: what becomes of one is nothing to the other.
func TestCopyIsItsOwn(t *testing.T) {
	m := made(t, 3)
	sendIs(t, m, 0, 0, "x", 1, api.OK)
	copyIs(t, m, 0, api.OK)
	dropIs(t, m, 0, api.OK)
	holds(t, m, 2, letter(2, 0, 0, "x"))
	copyIs(t, m, 0, api.OK)
	deliverIs(t, m, 1, letter(3, 0, 0, "x"), api.OK)
	deliverIs(t, m, 0, letter(2, 0, 0, "x"), api.OK)
	holds(t, m, 3)
}

// No such letter is told ahead of a full mail, also by a mail that holds but one letter.
func TestCopyErrorsInOrder(t *testing.T) {
	for _, limit := range []int{1, 2, 5} {
		m := filled(t, limit)
		want := m.Flying()
		for _, i := range beside(limit) {
			copyIs(t, m, i, api.ErrNoLetter)
			dropIs(t, m, i, api.ErrNoLetter)
		}
		for i := range limit {
			copyIs(t, m, i, api.ErrCrowd)
		}
		holds(t, m, limit, want...)
	}
}

func TestDropAndCopyOverACutLink(t *testing.T) {
	m := filled(t, 3)
	cutIs(t, m, 1, 0, api.OK)
	copyIs(t, m, 0, api.ErrCrowd)
	copyIs(t, m, 3, api.ErrNoLetter)
	dropIs(t, m, 3, api.ErrNoLetter)
	dropIs(t, m, 1, api.OK)
	copyIs(t, m, 1, api.OK)
	holds(t, m, 4, letter(1, 0, 1, "a"), letter(3, 0, 1, "c"), letter(4, 0, 1, "c"))
	for range 3 {
		dropIs(t, m, 0, api.OK)
	}
	dropIs(t, m, 0, api.ErrNoLetter)
	holds(t, m, 4)
}

// Filled by Send or by Copy, emptied by Deliver or by Drop, from the front, the middle or the end: it is the same room.
func TestFillAndEmpty(t *testing.T) {
	places := map[string]func(n int) int{
		"first":  func(int) int { return 0 },
		"middle": func(n int) int { return n / 2 },
		"last":   func(n int) int { return n - 1 },
	}
	for _, limit := range []int{1, 2, 3, 1024} {
		m, sent := made(t, limit), 0
		for what, place := range places {
			for round := range 4 {
				byCopy, byDrop := round&1 > 0, round&2 > 0
				sent = fill(t, m, limit, sent, byCopy)
				empty(t, m, limit, byDrop, place)
				holds(t, m, sent)
				if t.Failed() {
					t.Fatalf("limit %d, %s, round %d", limit, what, round)
				}
			}
		}
	}
}

// fill fills a mail that is empty, and tells how many letters have been set off by then.
func fill(t *testing.T, m *Mail, limit, sent int, byCopy bool) int {
	t.Helper()
	for i := range limit {
		is(t, "Count", m.Count(), i)
		sent++
		if byCopy && i > 0 {
			copyIs(t, m, i/2, api.OK)
		} else {
			sendIs(t, m, 3, 4, "f", sent, api.OK)
		}
	}
	sendIs(t, m, 3, 4, "f", 0, api.ErrCrowd)
	copyIs(t, m, 0, api.ErrCrowd)
	for i, l := range m.Flying() {
		is(t, "a letter", l, letter(sent-limit+1+i, 3, 4, "f"))
	}
	return sent
}

// empty takes all letters out of a full mail.
func empty(t *testing.T, m *Mail, limit int, byDrop bool, place func(n int) int) {
	t.Helper()
	left := m.Flying()
	for n := limit; n > 0; n-- {
		i := place(n)
		if byDrop {
			dropIs(t, m, i, api.OK)
		} else {
			deliverIs(t, m, i, left[i], api.OK)
		}
		left = slices.Delete(left, i, i+1)
		is(t, "Count", m.Count(), n-1)
	}
	notDelivered(t, m, 0, api.ErrNoLetter)
	dropIs(t, m, 0, api.ErrNoLetter)
	copyIs(t, m, 0, api.ErrNoLetter)
}
