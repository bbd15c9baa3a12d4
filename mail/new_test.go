package mail

import (
	"testing"

	"granary/api"
)

// P13.1

func TestNew(t *testing.T) {
	for _, limit := range []int{leastInt, -1024, -1, 0, 1025, 1026, 1 << 32, mostInt} {
		if m, e := New(limit); m != nil || e != api.ErrArg {
			t.Errorf("New(%d) = %v, %d, want ErrArg", limit, m != nil, e)
		}
	}
	for _, limit := range []int{1, 2, 3, 1023, 1024} {
		m := made(t, limit)
		holds(t, m, 0)
		notDelivered(t, m, 0, api.ErrNoLetter)
	}
}

// The limit is just what New was told.
func TestLimit(t *testing.T) {
	for _, limit := range []int{1, 2, 3, 100, 1023, 1024} {
		m := made(t, limit)
		for i := range limit {
			sendIs(t, m, i%68, i%67, "", i+1, api.OK)
		}
		sendIs(t, m, 0, 1, "", 0, api.ErrCrowd)
		copyIs(t, m, 0, api.ErrCrowd)
		is(t, "Count", m.Count(), limit)
		is(t, "Sent", m.Sent(), limit)
	}
}

// At first no link is cut.
func TestNewIsWhole(t *testing.T) {
	m := made(t, 1)
	sent := 0
	for from := range 68 {
		for to := range 68 {
			sent++
			sendIs(t, m, from, to, "", sent, api.OK)
			deliverIs(t, m, 0, letter(sent, from, to, ""), api.OK)
		}
	}
}

// A mail that New did not make is answered as one that is not there.
func TestNoMail(t *testing.T) {
	numbers := []int{leastInt, -1, 0, 1, 67, 68, mostInt}
	for what, m := range map[string]*Mail{"nil": nil, "not made": new(Mail)} {
		for _, i := range numbers {
			notDelivered(t, m, i, api.ErrNil)
			dropIs(t, m, i, api.ErrNil)
			copyIs(t, m, i, api.ErrNil)
			for _, j := range numbers {
				sendIs(t, m, i, j, "", 0, api.ErrNil)
				sendIs(t, m, i, j, "frame", 0, api.ErrNil)
				cutIs(t, m, i, j, api.ErrNil)
				healIs(t, m, i, j, api.ErrNil)
			}
		}
		is(t, what+": Flying", len(m.Flying()), 0)
		is(t, what+": Count", m.Count(), 0)
		is(t, what+": Sent", m.Sent(), 0)
	}
}

func TestMailsBesideOneAnother(t *testing.T) {
	one, other := made(t, 2), made(t, 2)
	sendIs(t, one, 0, 1, "one", 1, api.OK)
	holds(t, other, 0)
	sendIs(t, other, 2, 3, "other", 1, api.OK)
	cutIs(t, one, 0, 1, api.OK)
	cutIs(t, other, 2, 3, api.OK)
	sendIs(t, other, 0, 1, "more", 2, api.OK)
	sendIs(t, one, 2, 3, "more", 2, api.OK)
	holds(t, one, 2, letter(1, 0, 1, "one"), letter(2, 2, 3, "more"))
	holds(t, other, 2, letter(1, 2, 3, "other"), letter(2, 0, 1, "more"))
	dropIs(t, one, 0, api.OK)
	sendIs(t, other, 5, 5, "", 0, api.ErrCrowd)
	healIs(t, one, 2, 3, api.OK)
	notDelivered(t, other, 0, api.ErrCut)
	deliverIs(t, one, 0, letter(2, 2, 3, "more"), api.OK)
	holds(t, one, 2)
	holds(t, other, 2, letter(1, 2, 3, "other"), letter(2, 0, 1, "more"))
	third := made(t, 1)
	holds(t, third, 0)
	sendIs(t, third, 0, 1, "", 1, api.OK)
	sendIs(t, third, 2, 3, "", 0, api.ErrCrowd)
}
