package mail

import (
	"slices"
	"testing"
)

// The bag is the same, whatever it holds.

func TestBagOfNumbers(t *testing.T) {
	var b bag[int]
	is(t, "count", b.count(), 0)
	for i := range 4 {
		b.put(10 * i)
	}
	for _, i := range []int{leastInt, -1, 4, mostInt} {
		n, ok := b.at(i)
		is(t, "at", ok, false)
		is(t, "at", n, 0)
		n, ok = b.take(i)
		is(t, "take", ok, false)
		is(t, "take", n, 0)
	}
	n, ok := b.at(3)
	is(t, "at", ok, true)
	is(t, "at", n, 30)
	n, ok = b.take(1)
	is(t, "take", ok, true)
	is(t, "take", n, 10)
	b.put(40)
	if !slices.Equal(b.all(), []int{0, 20, 30, 40}) || b.count() != 4 {
		t.Errorf("all: %v", b.all())
	}
}

func TestBagOfLists(t *testing.T) {
	var b bag[[]string]
	b.put(nil)
	b.put([]string{"x"})
	list, ok := b.take(0)
	is(t, "take", ok, true)
	is(t, "take", len(list), 0)
	list, ok = b.at(0)
	is(t, "at", ok, true)
	is(t, "at", len(list), 1)
	b.all()[0] = nil
	list, _ = b.at(0)
	is(t, "at, behind another's writing", len(list), 1)
	is(t, "count", b.count(), 1)
}
