package throttle

import (
	"testing"

	"granary/api"
)

// The chapter's ten examples, and that of README.md.

func TestExample1(t *testing.T) {
	for _, c := range [][3]int{{0, 1, 1}, {1, 0, 1}, {1, 1, 0}, {65537, 1, 1}, {1, 1025, 1}, {1, 1, 65537}} {
		if b, e := NewBucket(c[0], c[1], c[2]); b != nil || e != api.ErrArg {
			t.Errorf("NewBucket(%v) = %v, %d", c, b != nil, e)
		}
	}
	levelIs(t, bucket(t, 10, 4, 64), 64)
}

// second is the bucket behind example 2.
func second(t *testing.T) *Bucket {
	t.Helper()
	b := bucket(t, 10, 4, 64)
	takeIs(t, b, 65, false, api.ErrNever)
	takeIs(t, b, -1, false, api.ErrArg)
	takeIs(t, b, 60, true, api.OK)
	levelIs(t, b, 4)
	takeIs(t, b, 5, false, api.OK)
	levelIs(t, b, 4)
	takeIs(t, b, 0, true, api.OK)
	return b
}

func TestExample2(t *testing.T) { second(t) }

func TestExample3(t *testing.T) {
	b := second(t)
	waitIs(t, b, 4, 0, api.OK)
	waitIs(t, b, 5, 1, api.OK)
	waitIs(t, b, 64, 24, api.OK)
	waitIs(t, b, 65, 0, api.ErrNever)
	tickIs(t, b, 1, api.OK)
	levelIs(t, b, 6)
	tickIs(t, b, 1, api.OK)
	levelIs(t, b, 9)
}

func TestExample4(t *testing.T) {
	b := bucket(t, 1, 3, 2)
	takeIs(t, b, 2, true, api.OK)
	tickIs(t, b, 2, api.OK)
	levelIs(t, b, 0)
	tickIs(t, b, 1, api.OK)
	levelIs(t, b, 1)
	tickIs(t, b, 1000000, api.OK)
	levelIs(t, b, 2)
	tickIs(t, b, -1, api.ErrArg)
	tickIs(t, b, 1099511627776, api.OK)
	tickIs(t, b, 1099511627777, api.ErrArg)
}

func TestExample5(t *testing.T) {
	b := bucket(t, 5, 1, 2)
	takeIs(t, b, 2, true, api.OK)
	waitIs(t, b, 2, 1, api.OK)
	tickIs(t, b, 1, api.OK)
	levelIs(t, b, 2)
}

func TestExample6(t *testing.T) {
	for _, c := range [][3]int{{0, 1, 1}, {65, 1, 1}, {1, 0, 1}, {1, 2, 1}, {1, 1, 1025}} {
		if b, e := NewBudget(c[0], c[1], c[2]); b != nil || e != api.ErrArg {
			t.Errorf("NewBudget(%v) = %v, %d", c, b != nil, e)
		}
	}
	budget(t, 4, 3, 8)
}

// seventh is the budget behind example 7.
func seventh(t *testing.T) *Budget {
	t.Helper()
	b, it := budget(t, 4, 3, 8), item(0, 5)
	leftIs(t, b, it, 4)
	failIs(t, b, it, 10, 13, api.OK)
	failIs(t, b, it, 20, 26, api.OK)
	failIs(t, b, it, 30, 38, api.OK)
	leftIs(t, b, it, 1)
	failIs(t, b, it, 40, 0, api.ErrSpent)
	leftIs(t, b, it, 0)
	failIs(t, b, it, 50, 0, api.ErrSpent)
	return b
}

func TestExample7(t *testing.T) { seventh(t) }

func TestExample8(t *testing.T) {
	b := seventh(t)
	leftIs(t, b, item(5, 0), 4)
	failIs(t, b, item(0, 4), 0, 3, api.OK)
	clearIs(t, b, item(0, 5), api.OK)
	leftIs(t, b, item(0, 5), 4)
	failIs(t, b, item(0, 5), 0, 3, api.OK)
	clearIs(t, b, item(9, 9), api.OK)
}

func TestExample9(t *testing.T) {
	b := seventh(t)
	failIs(t, b, item(0, 5), -1, 0, api.ErrArg)
	failIs(t, b, item(0, 5), 9007199254740993, 0, api.ErrArg)
	failIs(t, b, item(0, 6), -1, 0, api.ErrArg)
	failIs(t, b, item(0, 6), 9007199254740993, 0, api.ErrArg)
	failIs(t, b, item(0, 6), 9007199254740992, 9007199254740995, api.OK)
}

func TestExample10(t *testing.T) {
	failIs(t, budget(t, 1, 1, 1), item(0, 0), 0, 0, api.ErrSpent)
	b := budget(t, 64, 1, 1024)
	for i := range 63 {
		failIs(t, b, item(0, 0), 0, 1<<min(i, 10), api.OK)
	}
	failIs(t, b, item(0, 0), 0, 0, api.ErrSpent)
}

func TestReadme(t *testing.T) {
	b := bucket(t, 10, 4, 64)
	takeIs(t, b, 60, true, api.OK)
	takeIs(t, b, 5, false, api.OK)
	waitIs(t, b, 5, 1, api.OK)
	tickIs(t, b, 1, api.OK)
	levelIs(t, b, 6)
	takeIs(t, b, 65, false, api.ErrNever)

	g := budget(t, 3, 2, 8)
	it := api.Item{Node: 2, File: 7}
	failIs(t, g, it, 100, 102, api.OK)
	failIs(t, g, it, 102, 106, api.OK)
	leftIs(t, g, it, 1)
	failIs(t, g, it, 106, 0, api.ErrSpent)
	clearIs(t, g, it, api.OK)
	leftIs(t, g, it, 3)
}
