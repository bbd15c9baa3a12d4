package throttle

import "testing"

// P10.8: calls drawn by lot are held against the plain reading, so each answer hangs on the calls ahead of it alone.

// near draws a number about one of these.
func near(lot *dice, these ...int) int { return these[lot.roll(len(these))] + lot.roll(3) - 1 }

func TestBucketsByLot(t *testing.T) {
	lot := dice(10)
	for range 3000 {
		rate, per, burst := near(&lot, 0, 1, 9, 100), near(&lot, 0, 1, 7, 100), near(&lot, 0, 1, 9, 60)
		b, e := NewBucket(rate, per, burst)
		r, want := readBucket(rate, per, burst)
		if e != want || (b != nil) != (r != nil) {
			t.Fatalf("NewBucket(%d, %d, %d) = %v, %d, want %d", rate, per, burst, b != nil, e, want)
		}
		if b == nil {
			continue
		}
		for range 60 {
			callBoth(t, &lot, b, r, burst)
		}
		if t.Failed() {
			t.Fatalf("NewBucket(%d, %d, %d)", rate, per, burst)
		}
	}
}

func callBoth(t *testing.T, lot *dice, b *Bucket, r *reading, burst int) {
	t.Helper()
	switch lot.roll(6) {
	case 0:
		n := near(lot, 0, 0, 5, 40, longest)
		tickIs(t, b, n, r.tick(n))
	case 1, 2:
		n := near(lot, 0, r.level(), burst, lot.roll(burst+1))
		ok, e := r.take(n)
		takeIs(t, b, n, ok, e)
	case 3, 4:
		n := near(lot, 0, r.level(), burst, lot.roll(burst+1))
		ticks, e := r.wait(n)
		waitIs(t, b, n, ticks, e)
	case 5:
		levelIs(t, b, r.level())
	}
}

func TestBudgetsByLot(t *testing.T) {
	lot := dice(20)
	for range 3000 {
		tries, base, most := near(&lot, 0, 2, 5, 64), near(&lot, 0, 1, 7, 1024), near(&lot, 0, 7, 100, 1024)
		b, e := NewBudget(tries, base, most)
		l, want := readBudget(tries, base, most)
		if e != want || (b != nil) != (l != nil) {
			t.Fatalf("NewBudget(%d, %d, %d) = %v, %d, want %d", tries, base, most, b != nil, e, want)
		}
		if b == nil {
			continue
		}
		for range 80 {
			it := item(near(&lot, 0), near(&lot, 0))
			switch lot.roll(12) {
			case 0:
				clearIs(t, b, it, l.clear(it))
			case 1, 2, 3:
				leftIs(t, b, it, l.left(it))
			default:
				now := near(&lot, 0, 50, 1000, latest)
				at, e := l.fail(it, now)
				failIs(t, b, it, now, at, e)
			}
		}
		if t.Failed() {
			t.Fatalf("NewBudget(%d, %d, %d)", tries, base, most)
		}
	}
}

// Two that are asked the same answer the same.
func TestSameCallsSameAnswers(t *testing.T) {
	lot := dice(30)
	one, other := bucket(t, 7, 9, 50), bucket(t, 7, 9, 50)
	for range 2000 {
		n := lot.roll(52) - 1
		is(t, "Tick", one.Tick(n%4), other.Tick(n%4))
		ok, e := one.Take(n)
		takeIs(t, other, n, ok, e)
		ticks, e := one.Wait(n)
		waitIs(t, other, n, ticks, e)
		is(t, "Level", one.Level(), other.Level())
	}
}
