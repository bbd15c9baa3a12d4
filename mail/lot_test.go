package mail

import (
	"testing"

	"granary/api"
)

// P13.7: calls drawn by lot are held against the plain reading, so each answer hangs on the calls ahead of it alone.

// oneOf draws one of these.
func oneOf(lot *dice, these ...int) int { return these[lot.roll(len(these))] }

// address draws one of a few, so that links meet again, and now and then none.
func address(lot *dice) int {
	if lot.roll(12) == 0 {
		return oneOf(lot, leastInt, -1, 68, mostInt)
	}
	return oneOf(lot, 0, 1, 2, 67)
}

// place draws the number of a letter, out of n, or of none.
func place(lot *dice, n int) int {
	if n == 0 || lot.roll(8) == 0 {
		return oneOf(lot, leastInt, -1, n, n+1, mostInt)
	}
	return lot.roll(n)
}

func frame(lot *dice) string {
	b := make([]byte, lot.roll(5))
	for i := range b {
		b[i] = byte(lot.roll(256))
	}
	return string(b)
}

func callBoth(t *testing.T, lot *dice, m *Mail, r *reading) {
	t.Helper()
	switch lot.roll(10) {
	case 0, 1, 2:
		from, to, text := address(lot), address(lot), frame(lot)
		id, e := r.send(from, to, text)
		sendIs(t, m, from, to, text, id, e)
	case 3, 4:
		i := place(lot, m.Count())
		want, e := r.deliver(i)
		deliverIs(t, m, i, want, e)
	case 5:
		i := place(lot, m.Count())
		dropIs(t, m, i, r.drop(i))
	case 6, 7:
		i := place(lot, m.Count())
		copyIs(t, m, i, r.double(i))
	case 8:
		a, b := address(lot), address(lot)
		cutIs(t, m, a, b, r.link(a, b, true))
	case 9:
		a, b := address(lot), address(lot)
		healIs(t, m, a, b, r.link(a, b, false))
	}
	holds(t, m, len(r.ever), r.flying()...)
}

func TestMailsByLot(t *testing.T) {
	lot := dice(13)
	for range 2000 {
		limit := oneOf(&lot, -1, 0, 1, 2, 3, 5, 20, 1024, 1025)
		m, e := New(limit)
		r, want := readNew(limit)
		if e != want || (m != nil) != (r != nil) {
			t.Fatalf("New(%d) = %v, %d, want %d", limit, m != nil, e, want)
		}
		for range 100 {
			if m != nil {
				callBoth(t, &lot, m, r)
			}
		}
		if t.Failed() {
			t.Fatalf("New(%d)", limit)
		}
	}
}

// A few mails that live long, and come to their limit and back to nothing.
func TestLongLives(t *testing.T) {
	lot := dice(31)
	for _, limit := range []int{1, 4, 9} {
		m, r := made(t, limit), &reading{limit: limit}
		for range 2000 {
			callBoth(t, &lot, m, r)
		}
		if t.Failed() {
			t.Fatalf("New(%d)", limit)
		}
	}
}

// Two that are asked the same answer the same, whatever a third one is asked in between.
func TestSameCallsSameAnswers(t *testing.T) {
	lot := dice(77)
	one, other, third := made(t, 6), made(t, 6), made(t, 4)
	for range 3000 {
		from, to, a, b, text := address(&lot), address(&lot), address(&lot), address(&lot), frame(&lot)
		i, j, k := place(&lot, one.Count()), place(&lot, one.Count()), place(&lot, one.Count())
		id, e := one.Send(from, to, text)
		third.Send(to, b, text)
		sendIs(t, other, from, to, text, id, e)
		cutIs(t, other, a, b, one.Cut(a, b))
		third.Heal(a, b)
		got, e := one.Deliver(i)
		third.Copy(0)
		deliverIs(t, other, i, got, e)
		copyIs(t, other, j, one.Copy(j))
		healIs(t, other, b, to, one.Heal(b, to))
		third.Drop(k)
		dropIs(t, other, k, one.Drop(k))
		holds(t, other, one.Sent(), one.Flying()...)
	}
}

// Every call with every number of a hard list, on a mail that is empty and on one that is full: all end, none panics.
func TestHardNumbers(t *testing.T) {
	numbers := []int{leastInt, leastInt + 1, -1 << 32, -68, -1, 0, 1, 2, 66, 67, 68, 1023, 1024, 1 << 31, 1 << 32, mostInt - 1, mostInt}
	for _, a := range numbers {
		for _, b := range numbers {
			for _, letters := range []int{0, 2} {
				m, r := made(t, 2), &reading{limit: 2}
				for range letters {
					id, e := r.send(1, 2, "x")
					sendIs(t, m, 1, 2, "x", id, e)
				}
				cutIs(t, m, a, b, r.link(a, b, true))
				id, e := r.send(b, a, "y")
				sendIs(t, m, b, a, "y", id, e)
				copyIs(t, m, a, r.double(a))
				want, e := r.deliver(b)
				deliverIs(t, m, b, want, e)
				healIs(t, m, b, a, r.link(b, a, false))
				dropIs(t, m, a, r.drop(a))
				holds(t, m, len(r.ever), r.flying()...)
			}
		}
	}
	is(t, "the last address", api.AddrExport, lastAddress)
}
