package mail

import (
	"testing"

	"granary/api"
)

// The chapter's ten examples, and that of README.md. Each stands on the one ahead of it.

func TestExample1(t *testing.T) {
	for _, limit := range []int{0, -1, 1025} {
		if m, e := New(limit); m != nil || e != api.ErrArg {
			t.Errorf("New(%d) = %v, %d", limit, m != nil, e)
		}
	}
	made(t, 1024)
}

func second(t *testing.T) *Mail {
	t.Helper()
	m := made(t, 3)
	sendIs(t, m, 0, 1, "a", 1, api.OK)
	sendIs(t, m, 1, 0, "b", 2, api.OK)
	sendIs(t, m, 0, 0, "", 3, api.OK)
	sendIs(t, m, 0, 1, "c", 0, api.ErrCrowd)
	sendIs(t, m, -1, 0, "", 0, api.ErrArg)
	sendIs(t, m, 0, 68, "", 0, api.ErrArg)
	sendIs(t, m, 67, 0, "", 0, api.ErrCrowd)
	is(t, "Count", m.Count(), 3)
	is(t, "Sent", m.Sent(), 3)
	return m
}

func TestExamples2And3(t *testing.T) {
	holds(t, second(t), 3, letter(1, 0, 1, "a"), letter(2, 1, 0, "b"), letter(3, 0, 0, ""))
}

func fourth(t *testing.T) *Mail {
	t.Helper()
	m := second(t)
	deliverIs(t, m, 1, letter(2, 1, 0, "b"), api.OK)
	deliverIs(t, m, 1, letter(3, 0, 0, ""), api.OK)
	notDelivered(t, m, 1, api.ErrNoLetter)
	notDelivered(t, m, -1, api.ErrNoLetter)
	is(t, "Count", m.Count(), 1)
	is(t, "Sent", m.Sent(), 3)
	return m
}

func fifth(t *testing.T) *Mail {
	t.Helper()
	m := fourth(t)
	copyIs(t, m, 0, api.OK)
	holds(t, m, 4, letter(1, 0, 1, "a"), letter(4, 0, 1, "a"))
	copyIs(t, m, 2, api.ErrNoLetter)
	copyIs(t, m, 1, api.OK)
	copyIs(t, m, 0, api.ErrCrowd)
	return m
}

func sixth(t *testing.T) *Mail {
	t.Helper()
	m := fifth(t)
	dropIs(t, m, 1, api.OK)
	holds(t, m, 5, letter(1, 0, 1, "a"), letter(5, 0, 1, "a"))
	dropIs(t, m, 2, api.ErrNoLetter)
	return m
}

func seventh(t *testing.T) *Mail {
	t.Helper()
	m := sixth(t)
	cutIs(t, m, 1, 0, api.OK)
	cutIs(t, m, 0, 1, api.OK)
	notDelivered(t, m, 0, api.ErrCut)
	sendIs(t, m, 1, 0, "", 0, api.ErrCut)
	sendIs(t, m, 0, 2, "x", 6, api.OK)
	deliverIs(t, m, 2, letter(6, 0, 2, "x"), api.OK)
	copyIs(t, m, 0, api.OK)
	dropIs(t, m, 0, api.OK)
	return m
}

func TestExamples4To9(t *testing.T) {
	m := seventh(t)
	healIs(t, m, 0, 1, api.OK)
	deliverIs(t, m, 0, letter(5, 0, 1, "a"), api.OK)
	healIs(t, m, 0, 1, api.OK)
	cutIs(t, m, 0, 0, api.ErrArg)
	cutIs(t, m, 0, 68, api.ErrArg)
	healIs(t, m, -1, 0, api.ErrArg)
	holds(t, m, 7, letter(7, 0, 1, "a"))
}

func TestExample10(t *testing.T) {
	var m *Mail
	sendIs(t, m, -1, 0, "", 0, api.ErrNil)
	notDelivered(t, m, 0, api.ErrNil)
	dropIs(t, m, 0, api.ErrNil)
	copyIs(t, m, 0, api.ErrNil)
	cutIs(t, m, 0, 0, api.ErrNil)
	healIs(t, m, 0, 0, api.ErrNil)
	holds(t, m, 0)
}

func TestReadme(t *testing.T) {
	m := made(t, 3)
	sendIs(t, m, 64, 2, "ping", 1, api.OK)
	sendIs(t, m, 2, 64, "pong", 2, api.OK)
	copyIs(t, m, 0, api.OK)
	sendIs(t, m, 0, 1, "more", 0, api.ErrCrowd)
	deliverIs(t, m, 1, letter(2, 2, 64, "pong"), api.OK)
	holds(t, m, 3, letter(1, 64, 2, "ping"), letter(3, 64, 2, "ping"))
	cutIs(t, m, 2, 64, api.OK)
	notDelivered(t, m, 0, api.ErrCut)
	dropIs(t, m, 0, api.OK)
	healIs(t, m, 64, 2, api.OK)
	deliverIs(t, m, 0, letter(3, 64, 2, "ping"), api.OK)
	notDelivered(t, m, 0, api.ErrNoLetter)
	is(t, "Sent", m.Sent(), 3)
}
