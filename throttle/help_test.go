package throttle

import (
	"testing"

	"granary/api"
)

const (
	mostInt  = int(^uint(0) >> 1)
	leastInt = -mostInt - 1
	longest  = 1099511627776 // ticks at once
	latest   = 9007199254740992
)

func is[T comparable](t *testing.T, what string, got, want T) {
	t.Helper()
	if got != want {
		t.Errorf("%s: %v, want %v", what, got, want)
	}
}

// bucket makes one, and it must be done.
func bucket(t *testing.T, rate, per, burst int) *Bucket {
	t.Helper()
	b, e := NewBucket(rate, per, burst)
	if b == nil || e != api.OK {
		t.Fatalf("NewBucket(%d, %d, %d) = %v, %d", rate, per, burst, b != nil, e)
	}
	return b
}

// empty is a bucket of which all is taken out.
func empty(t *testing.T, rate, per, burst int) *Bucket {
	t.Helper()
	b := bucket(t, rate, per, burst)
	takeIs(t, b, burst, true, api.OK)
	return b
}

// budget makes one, and it must be done.
func budget(t *testing.T, tries, base, most int) *Budget {
	t.Helper()
	b, e := NewBudget(tries, base, most)
	if b == nil || e != api.OK {
		t.Fatalf("NewBudget(%d, %d, %d) = %v, %d", tries, base, most, b != nil, e)
	}
	return b
}

func tickIs(t *testing.T, b *Bucket, n int, want api.Errno) {
	t.Helper()
	if e := b.Tick(n); e != want {
		t.Errorf("Tick(%d) = %d, want %d", n, e, want)
	}
}

func takeIs(t *testing.T, b *Bucket, n int, want bool, errno api.Errno) {
	t.Helper()
	if ok, e := b.Take(n); ok != want || e != errno {
		t.Errorf("Take(%d) = %v, %d, want %v, %d", n, ok, e, want, errno)
	}
}

func waitIs(t *testing.T, b *Bucket, n, want int, errno api.Errno) {
	t.Helper()
	if ticks, e := b.Wait(n); ticks != want || e != errno {
		t.Errorf("Wait(%d) = %d, %d, want %d, %d", n, ticks, e, want, errno)
	}
}

func levelIs(t *testing.T, b *Bucket, want int) {
	t.Helper()
	is(t, "Level", b.Level(), want)
}

func failIs(t *testing.T, b *Budget, it api.Item, now, want int, errno api.Errno) {
	t.Helper()
	if at, e := b.Fail(it, now); at != want || e != errno {
		t.Errorf("Fail(%v, %d) = %d, %d, want %d, %d", it, now, at, e, want, errno)
	}
}

func leftIs(t *testing.T, b *Budget, it api.Item, want int) {
	t.Helper()
	if n := b.Left(it); n != want {
		t.Errorf("Left(%v) = %d, want %d", it, n, want)
	}
}

func clearIs(t *testing.T, b *Budget, it api.Item, want api.Errno) {
	t.Helper()
	if e := b.Clear(it); e != want {
		t.Errorf("Clear(%v) = %d, want %d", it, e, want)
	}
}

func item(node, file int) api.Item { return api.Item{Node: node, File: file} }

// dice are numbers that are the same in every run.
type dice uint64

func (d *dice) roll(n int) int {
	*d = *d*6364136223846793005 + 1442695040888963407
	return int(uint64(*d)>>33) % n
}
