package throttle

import (
	"testing"

	"granary/api"
)

// P10.1

func TestNoBudget(t *testing.T) {
	for what, b := range map[string]*Budget{"nil": nil, "not made": new(Budget)} {
		for _, now := range []int{leastInt, -1, 0, 1, latest + 1, mostInt} {
			failIs(t, b, item(0, 0), now, 0, api.ErrNil)
		}
		leftIs(t, b, item(0, 0), 0)
		is(t, what+": Clear", b.Clear(item(0, 0)), api.ErrNil)
	}
}

// P10.6

func TestNewBudget(t *testing.T) {
	numbers := []int{leastInt, -1, 0, 1, 2, 3, 63, 64, 65, 1023, 1024, 1025, mostInt}
	for _, tries := range numbers {
		for _, base := range numbers {
			for _, most := range append([]int{max(base, 0) - 1, base}, numbers...) {
				_, want := readBudget(tries, base, most)
				b, e := NewBudget(tries, base, most)
				if e != want || (b != nil) != (want == api.OK) {
					t.Errorf("NewBudget(%d, %d, %d) = %v, %d, want %d", tries, base, most, b != nil, e, want)
				}
				if want == api.OK {
					leftIs(t, b, item(0, 0), tries)
				}
			}
		}
	}
}

func TestNewBudgetEdges(t *testing.T) {
	for _, c := range [][3]int{{1, 1, 1}, {64, 1, 1}, {1, 1024, 1024}, {1, 1, 1024}, {64, 1024, 1024}, {2, 7, 7}} {
		budget(t, c[0], c[1], c[2])
	}
	for _, c := range [][3]int{
		{0, 1, 1}, {65, 1, 1}, {leastInt, 1, 1}, {mostInt, 1, 1},
		{1, 0, 1}, {1, -1, 1}, {1, 1025, 1025}, {1, 1025, 1024}, {1, leastInt, 1}, {1, mostInt, mostInt}, {1, 0, 0},
		{1, 1, 0}, {1, 7, 6}, {1, 1024, 1023}, {1, 1, 1025}, {1, 1, leastInt}, {1, 1, mostInt},
		{0, 0, 0}, {65, 1025, 1026},
	} {
		if b, e := NewBudget(c[0], c[1], c[2]); b != nil || e != api.ErrArg {
			t.Errorf("NewBudget(%v) = %v, %d, want ErrArg", c, b != nil, e)
		}
	}
}

func TestFailAtWrongTimes(t *testing.T) {
	b, it := budget(t, 2, 1, 1), item(3, 4)
	wrong := func(left int) {
		for _, now := range []int{leastInt, -1, latest + 1, mostInt} {
			failIs(t, b, it, now, 0, api.ErrArg)
			leftIs(t, b, it, left)
		}
	}
	wrong(2)
	failIs(t, b, it, 0, 1, api.OK)
	wrong(1)
	failIs(t, b, it, 0, 0, api.ErrSpent)
	wrong(0) // two errors at once: the time's is told
}

func TestFailAtTheEnds(t *testing.T) {
	b := budget(t, 64, 1024, 1024)
	failIs(t, b, item(0, 0), 0, 1024, api.OK)
	failIs(t, b, item(0, 0), 1, 1025, api.OK)
	failIs(t, b, item(0, 0), latest-1, latest+1023, api.OK)
	failIs(t, b, item(0, 0), latest, latest+1024, api.OK)
	failIs(t, b, item(0, 0), 5, 1029, api.OK) // time may go back: each answer hangs on its own now
}

// The waits double up to most, wherever that lies.
func TestWaits(t *testing.T) {
	for _, c := range []struct {
		base, most int
		want       []int
	}{
		{1, 1, []int{1, 1, 1}},
		{1, 2, []int{1, 2, 2, 2}},
		{1, 3, []int{1, 2, 3, 3}},
		{1, 4, []int{1, 2, 4, 4}},
		{3, 8, []int{3, 6, 8, 8}},
		{3, 12, []int{3, 6, 12, 12}},
		{7, 7, []int{7, 7, 7}},
		{5, 1024, []int{5, 10, 20, 40, 80, 160, 320, 640, 1024, 1024}},
		{513, 1024, []int{513, 1024, 1024}},
		{512, 1024, []int{512, 1024, 1024}},
		{1024, 1024, []int{1024, 1024}},
	} {
		b := budget(t, 64, c.base, c.most)
		for _, want := range c.want {
			failIs(t, b, item(1, 2), 100, 100+want, api.OK)
		}
	}
}

// Doubled as often as there are tries, an int would run over.
func TestManyTries(t *testing.T) {
	for _, most := range []int{1, 1000, 1024} {
		for _, base := range []int{1, 3, 1000, 1024} {
			if base > most {
				continue
			}
			b := budget(t, 64, base, most)
			last := 0
			for f := 1; f < 64; f++ {
				at, e := b.Fail(item(0, 0), 7)
				if e != api.OK || at < max(last, 7+base) || at > 7+most {
					t.Fatalf("base %d, most %d, failure %d: %d, %d", base, most, f, at, e)
				}
				last = at
			}
			is(t, "the last wait", last, 7+most)
			failIs(t, b, item(0, 0), 7, 0, api.ErrSpent)
		}
	}
}

func TestSpentThenCleared(t *testing.T) {
	for _, tries := range []int{1, 2, 3, 64} {
		b, it := budget(t, tries, 2, 9), item(6, 1)
		for range 3 {
			for f := 1; f < tries; f++ {
				leftIs(t, b, it, tries-f+1)
				failIs(t, b, it, 10, 10+min(9, 2<<min(f-1, 9)), api.OK)
			}
			leftIs(t, b, it, 1)
			failIs(t, b, it, 10, 0, api.ErrSpent)
			leftIs(t, b, it, 0)
			for range 3 {
				failIs(t, b, it, 10, 0, api.ErrSpent)
				leftIs(t, b, it, 0)
			}
			clearIs(t, b, it, api.OK)
		}
	}
}

// P10.7

func TestClear(t *testing.T) {
	b := budget(t, 3, 1, 8)
	clearIs(t, b, item(0, 0), api.OK) // never heard of
	leftIs(t, b, item(0, 0), 3)
	failIs(t, b, item(0, 0), 0, 1, api.OK)
	failIs(t, b, item(0, 0), 0, 2, api.OK)
	clearIs(t, b, item(0, 0), api.OK)
	clearIs(t, b, item(0, 0), api.OK)
	leftIs(t, b, item(0, 0), 3)
	failIs(t, b, item(0, 0), 0, 1, api.OK) // the first wait again
	leftIs(t, b, item(0, 0), 2)
}

func TestLeftChangesNothing(t *testing.T) {
	b := budget(t, 2, 5, 5)
	for range 3 {
		leftIs(t, b, item(1, 1), 2)
	}
	failIs(t, b, item(1, 1), 0, 5, api.OK)
	for range 3 {
		leftIs(t, b, item(1, 1), 1)
	}
}

// What was cleared or only asked for takes no room.
func TestForgotten(t *testing.T) {
	b := budget(t, 2, 1, 1)
	for i := range 100 {
		b.Left(item(i, 0))
		b.Fail(item(i, 1), -1)
		b.Clear(item(i, 2))
		b.Fail(item(i, 3), 0)
		b.Clear(item(i, 3))
	}
	is(t, "items that are kept", len(b.failed), 0)
}

// P10.8

var strangers = []api.Item{
	{}, {Node: 0, File: 1}, {Node: 1, File: 0}, {Node: 1, File: 1}, {Node: 0, File: -1}, {Node: -1, File: 0}, {Node: -1, File: -1},
	{Node: 1, File: -1}, {Node: -1, File: 1}, {Node: 2, File: 64}, {Node: 64, File: 2}, {Node: 1, File: 23}, {Node: 12, File: 3},
	{Node: mostInt, File: 0}, {Node: 0, File: mostInt}, {Node: leastInt, File: 0}, {Node: 0, File: leastInt},
	{Node: mostInt, File: leastInt}, {Node: leastInt, File: mostInt}, {Node: 1 << 32, File: 0}, {Node: 0, File: 1 << 32},
}

// No item feels what another one does, whatever its numbers are.
func TestItemsAreStrangers(t *testing.T) {
	for i, it := range strangers {
		b := budget(t, 3, 4, 16)
		failIs(t, b, it, 1, 5, api.OK)
		failIs(t, b, it, 1, 9, api.OK)
		for j, other := range strangers {
			if i == j {
				continue
			}
			leftIs(t, b, other, 3)
			failIs(t, b, other, 1, 5, api.OK)
			clearIs(t, b, other, api.OK)
			failIs(t, b, other, 1, 5, api.OK)
			leftIs(t, b, it, 1)
		}
		failIs(t, b, it, 1, 0, api.ErrSpent)
		clearIs(t, b, it, api.OK)
		leftIs(t, b, it, 3)
		for j, other := range strangers {
			if i != j {
				leftIs(t, b, other, 2)
			}
		}
	}
}

func TestBudgetsBesideOneAnother(t *testing.T) {
	one, other, it := budget(t, 2, 1, 4), budget(t, 2, 1, 4), item(5, 6)
	failIs(t, one, it, 0, 1, api.OK)
	leftIs(t, other, it, 2)
	failIs(t, one, it, 0, 0, api.ErrSpent)
	failIs(t, other, it, 9, 10, api.OK)
	clearIs(t, one, it, api.OK)
	leftIs(t, one, it, 2)
	leftIs(t, other, it, 1)
}
