package detector

import (
	"fmt"
	"slices"
	"testing"

	"granary/api"
)

const (
	mostInt  = int(^uint(0) >> 1)
	leastInt = -mostInt - 1
)

func is[T comparable](t *testing.T, what string, got, want T) {
	t.Helper()
	if got != want {
		t.Errorf("%s: %v, want %v", what, got, want)
	}
}

// made is a detector, and making it must be done.
func made(t *testing.T, nodes, strikes, ban int) *Detector {
	t.Helper()
	d, e := New(nodes, strikes, ban)
	if d == nil || e != api.OK {
		t.Fatalf("New(%d, %d, %d) = %v, %d", nodes, strikes, ban, d != nil, e)
	}
	return d
}

// beside are numbers of no node, if there are n.
func beside(n int) []int { return []int{leastInt, -n - 1, -n, -1, n, n + 1, 1 << 32, mostInt} }

func upto(n int) []int {
	var list []int
	for i := range n {
		list = append(list, i)
	}
	return list
}

func goodIs(t *testing.T, d *Detector, node int, want api.Errno) {
	t.Helper()
	if e := d.Good(node); e != want {
		t.Errorf("Good(%d) = %d, want %d", node, e, want)
	}
}

func badIs(t *testing.T, d *Detector, node int, want api.Errno) {
	t.Helper()
	if e := d.Bad(node); e != want {
		t.Errorf("Bad(%d) = %d, want %d", node, e, want)
	}
}

func tickIs(t *testing.T, d *Detector, want api.Errno) {
	t.Helper()
	if e := d.Tick(); e != want {
		t.Errorf("Tick() = %d, want %d", e, want)
	}
}

func silentIs(t *testing.T, d *Detector, node int, want bool, errno api.Errno) {
	t.Helper()
	if silent, e := d.Silent(node); silent != want || e != errno {
		t.Errorf("Silent(%d) = %v, %d, want %v, %d", node, silent, e, want, errno)
	}
}

func orderIs(t *testing.T, d *Detector, given, want []int) {
	t.Helper()
	if list, e := d.Order(given...); !slices.Equal(list, want) || e != api.OK {
		t.Errorf("Order(%v) = %v, %d, want %v, 0", given, list, e, want)
	}
}

func notOrdered(t *testing.T, d *Detector, given []int, want api.Errno) {
	t.Helper()
	if list, e := d.Order(given...); list != nil || e != want {
		t.Errorf("Order(%v) = %v, %d, want no list, %d", given, list, e, want)
	}
}

// strike lets a node fail so many times.
func strike(t *testing.T, d *Detector, node, times int) {
	t.Helper()
	for range times {
		badIs(t, d, node, api.OK)
	}
}

// wait lets so many ticks go by.
func wait(t *testing.T, d *Detector, ticks int) {
	t.Helper()
	for range ticks {
		tickIs(t, d, api.OK)
	}
}

// hushed holds that just these nodes are silent, out of n.
func hushed(t *testing.T, d *Detector, n int, silent ...int) {
	t.Helper()
	for node := range n {
		silentIs(t, d, node, slices.Contains(silent, node), api.OK)
	}
}

// endsIn holds that a node is silent for just so many ticks more. They go by.
func endsIn(t *testing.T, d *Detector, node, ticks int) {
	t.Helper()
	for range ticks {
		silentIs(t, d, node, true, api.OK)
		tickIs(t, d, api.OK)
	}
	silentIs(t, d, node, false, api.OK)
}

// kept is all that a detector knows.
func kept(d *Detector) string { return fmt.Sprint(*d) }

// stays does something, and holds that the detector is as it was.
func stays(t *testing.T, d *Detector, do func()) {
	t.Helper()
	was := kept(d)
	do()
	is(t, "what it knows", kept(d), was)
}

// orders are a list's numbers in every order.
func orders(list []int) [][]int {
	if len(list) == 0 {
		return [][]int{nil}
	}
	var out [][]int
	for i, first := range list {
		for _, rest := range orders(slices.Delete(slices.Clone(list), i, i+1)) {
			out = append(out, append([]int{first}, rest...))
		}
	}
	return out
}

// dice are numbers that are the same in every run.
type dice uint64

func (d *dice) roll(n int) int {
	*d = *d*6364136223846793005 + 1442695040888963407
	return int(uint64(*d)>>33) % n
}

// oneOf draws one of these.
func oneOf(lot *dice, these ...int) int { return these[lot.roll(len(these))] }
