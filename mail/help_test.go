package mail

import (
	"fmt"
	"slices"
	"testing"

	"granary/api"
)

const (
	mostInt     = int(^uint(0) >> 1)
	leastInt    = -mostInt - 1
	lastAddress = 67
)

// nowhere are numbers that are no address, somewhere some that are.
var (
	nowhere   = []int{leastInt, -68, -1, 68, 69, 255, 1024, 1 << 32, mostInt}
	somewhere = []int{0, 1, 15, 16, 63, 64, 65, 66, 67}
)

func is[T comparable](t *testing.T, what string, got, want T) {
	t.Helper()
	if got != want {
		t.Errorf("%s: %v, want %v", what, got, want)
	}
}

// made is a mail, and making it must be done.
func made(t *testing.T, limit int) *Mail {
	t.Helper()
	m, e := New(limit)
	if m == nil || e != api.OK {
		t.Fatalf("New(%d) = %v, %d", limit, m != nil, e)
	}
	return m
}

// filled is a mail with as many letters as it holds, from 0 to 1, their frames "a", "b" ..
func filled(t *testing.T, limit int) *Mail {
	t.Helper()
	return partly(t, limit, limit)
}

// partly is a mail with so many of these letters.
func partly(t *testing.T, limit, n int) *Mail {
	t.Helper()
	m := made(t, limit)
	for i := range n {
		sendIs(t, m, 0, 1, frameOf(i), i+1, api.OK)
	}
	return m
}

func frameOf(i int) string { return string(rune('a' + i)) }

// lettersOf are the letters of filled that have these numbers.
func lettersOf(ids ...int) []api.Letter {
	var list []api.Letter
	for _, id := range ids {
		list = append(list, letter(id, 0, 1, frameOf(id-1)))
	}
	return list
}

func letter(id, from, to int, frame string) api.Letter {
	return api.Letter{Id: id, From: from, To: to, Frame: frame}
}

// told is letters in short: a frame may hold any bytes, and many.
func told(list ...api.Letter) string {
	text := fmt.Sprintf("%d letters:", len(list))
	for _, l := range list[:min(len(list), 10)] {
		text += fmt.Sprintf(" {%d %d %d %.20q}", l.Id, l.From, l.To, l.Frame)
	}
	return text
}

func sendIs(t *testing.T, m *Mail, from, to int, frame string, want int, errno api.Errno) {
	t.Helper()
	if id, e := m.Send(from, to, frame); id != want || e != errno {
		t.Errorf("Send(%d, %d, %.20q) = %d, %d, want %d, %d", from, to, frame, id, e, want, errno)
	}
}

func deliverIs(t *testing.T, m *Mail, i int, want api.Letter, errno api.Errno) {
	t.Helper()
	if got, e := m.Deliver(i); got != want || e != errno {
		t.Errorf("Deliver(%d) = %s, %d, want %s, %d", i, told(got), e, told(want), errno)
	}
}

// notDelivered holds that there is that error, and no letter.
func notDelivered(t *testing.T, m *Mail, i int, errno api.Errno) {
	t.Helper()
	deliverIs(t, m, i, api.Letter{}, errno)
}

func dropIs(t *testing.T, m *Mail, i int, want api.Errno) {
	t.Helper()
	if e := m.Drop(i); e != want {
		t.Errorf("Drop(%d) = %d, want %d", i, e, want)
	}
}

func copyIs(t *testing.T, m *Mail, i int, want api.Errno) {
	t.Helper()
	if e := m.Copy(i); e != want {
		t.Errorf("Copy(%d) = %d, want %d", i, e, want)
	}
}

func cutIs(t *testing.T, m *Mail, a, b int, want api.Errno) {
	t.Helper()
	if e := m.Cut(a, b); e != want {
		t.Errorf("Cut(%d, %d) = %d, want %d", a, b, e, want)
	}
}

func healIs(t *testing.T, m *Mail, a, b int, want api.Errno) {
	t.Helper()
	if e := m.Heal(a, b); e != want {
		t.Errorf("Heal(%d, %d) = %d, want %d", a, b, e, want)
	}
}

// holds holds that just these letters are in flight, and that so many were set off.
func holds(t *testing.T, m *Mail, sent int, want ...api.Letter) {
	t.Helper()
	if got := m.Flying(); !slices.Equal(got, want) {
		t.Errorf("Flying() = %s, want %s", told(got...), told(want...))
	}
	is(t, "Count", m.Count(), len(want))
	is(t, "Sent", m.Sent(), sent)
}

// dice are numbers that are the same in every run.
type dice uint64

func (d *dice) roll(n int) int {
	*d = *d*6364136223846793005 + 1442695040888963407
	return int(uint64(*d)>>33) % n
}
