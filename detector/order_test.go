package detector

import (
	"slices"
	"testing"

	"granary/api"
)

// P16.5

// mixed is a detector of five nodes at the time 6: 3 is silent till 8, 0 and 4 till 10; 1 has a ban behind it, 2 has a strike.
func mixed(t *testing.T) *Detector {
	t.Helper()
	d := made(t, 5, 2, 4)
	strike(t, d, 1, 2)
	wait(t, d, 4)
	strike(t, d, 2, 1)
	strike(t, d, 3, 2)
	wait(t, d, 2)
	strike(t, d, 4, 3)
	strike(t, d, 0, 2)
	hushed(t, d, 5, 0, 3, 4)
	return d
}

func TestOrderOfNone(t *testing.T) {
	for _, d := range []*Detector{made(t, 1, 1, 1), mixed(t)} {
		orderIs(t, d, nil, nil)
		orderIs(t, d, []int{}, nil)
		if list, e := d.Order(); len(list) != 0 || e != api.OK {
			t.Errorf("Order() = %v, %d", list, e)
		}
	}
}

func TestOrderOfOne(t *testing.T) {
	d := mixed(t)
	for node := range 5 {
		orderIs(t, d, []int{node}, []int{node})
	}
}

func TestOrderOfTheSame(t *testing.T) {
	d := mixed(t)
	for node := range 5 {
		for times := range 30 {
			list := slices.Repeat([]int{node}, times)
			orderIs(t, d, list, list)
		}
	}
	orderIs(t, d, []int{0, 1, 0, 1}, []int{1, 1, 0, 0})
	orderIs(t, d, []int{0, 3, 0, 2, 3, 2, 2}, []int{2, 2, 2, 3, 3, 0, 0})
	orderIs(t, d, []int{4, 0, 4, 3, 0, 1, 4}, []int{1, 3, 4, 0, 4, 0, 4})
}

// None is silent: each order stays as it was given.
func TestOrderOfNoneSilent(t *testing.T) {
	fresh, later := made(t, 5, 2, 4), mixed(t)
	wait(t, later, 4)
	for _, given := range orders(upto(5)) {
		orderIs(t, fresh, given, given)
		orderIs(t, later, given, given)
	}
}

// All are silent, each with an end of its own: whatever is given, one order comes of it.
func TestOrderOfAllSilent(t *testing.T) {
	for _, want := range orders(upto(4)) {
		d := made(t, 4, 1, 9)
		for _, node := range want {
			strike(t, d, node, 1)
			wait(t, d, 1)
		}
		for _, given := range orders(upto(4)) {
			orderIs(t, d, given, want)
		}
	}
}

// Bans with the same end: as they were given, in whichever order the nodes failed.
func TestOrderOfTheSameEnd(t *testing.T) {
	for _, fail := range orders(upto(4)) {
		d := made(t, 4, 1, 9)
		for _, node := range fail {
			strike(t, d, node, 1)
		}
		for _, given := range orders(upto(4)) {
			orderIs(t, d, given, given)
		}
	}
}

// Silent and others mixed, in every order: first 1 and 2, then 3, then 0 and 4, two each as they were given.
func TestOrderOfMixed(t *testing.T) {
	d := mixed(t)
	for _, given := range orders(upto(5)) {
		var want []int
		for _, part := range [][]int{{1, 2}, {3}, {0, 4}} {
			for _, node := range given {
				if slices.Contains(part, node) {
					want = append(want, node)
				}
			}
		}
		orderIs(t, d, given, want)
	}
}

// Some nodes alone: those that are not given do not come.
func TestOrderOfSome(t *testing.T) {
	d := mixed(t)
	orderIs(t, d, []int{4, 2}, []int{2, 4})
	orderIs(t, d, []int{2, 4}, []int{2, 4})
	orderIs(t, d, []int{4, 3}, []int{3, 4})
	orderIs(t, d, []int{4, 0}, []int{4, 0})
	orderIs(t, d, []int{0, 4}, []int{0, 4})
	orderIs(t, d, []int{2, 1}, []int{2, 1})
	orderIs(t, d, []int{0, 3, 1}, []int{1, 3, 0})
}

// The order follows what happens: a ban that moves, one that ends, one that is taken away.
func TestOrderFollows(t *testing.T) {
	d := made(t, 3, 1, 5)
	strike(t, d, 0, 1)
	wait(t, d, 1)
	strike(t, d, 1, 1)
	orderIs(t, d, []int{1, 0, 2}, []int{2, 0, 1})
	wait(t, d, 1)
	strike(t, d, 0, 1) // till 7, behind 1's end
	orderIs(t, d, []int{0, 1, 2}, []int{2, 1, 0})
	wait(t, d, 3)
	orderIs(t, d, []int{0, 1, 2}, []int{2, 1, 0})
	wait(t, d, 1)
	orderIs(t, d, []int{0, 1, 2}, []int{1, 2, 0})
	goodIs(t, d, 0, api.OK)
	orderIs(t, d, []int{0, 1, 2}, []int{0, 1, 2})
	strike(t, d, 2, 1)
	strike(t, d, 0, 1)
	orderIs(t, d, []int{2, 0, 1}, []int{1, 2, 0})
	orderIs(t, d, []int{0, 2, 1}, []int{1, 0, 2})
}

// All nodes that there can be, and far more numbers than nodes: a list that is sorted otherwise than a short one.
func TestOrderOfMany(t *testing.T) {
	d, r := made(t, 16, 1, 100), &reading{nodes: 16, strikes: 1, ban: 100}
	for node := range 16 {
		if node%4 > 0 {
			is(t, "Bad", d.Bad(15-node), r.bad(15-node))
		}
		if node%2 > 0 {
			is(t, "Tick", d.Tick(), r.tick())
		}
	}
	lot := dice(5)
	for _, n := range []int{16, 17, 100, 5000} {
		var given []int
		for range n {
			given = append(given, lot.roll(16))
		}
		want, _ := r.order(given)
		orderIs(t, d, given, want)
	}
}

// A number that is no node, at every place of a list, among silent nodes and others.
func TestOrderOfNoNode(t *testing.T) {
	d := mixed(t)
	for _, given := range [][]int{{}, {0}, {1}, {0, 1}, {1, 0, 2}, {4, 3, 2, 1, 0}} {
		for _, wrong := range beside(5) {
			for i := range len(given) + 1 {
				stays(t, d, func() { notOrdered(t, d, slices.Insert(slices.Clone(given), i, wrong), api.ErrNode) })
			}
			notOrdered(t, d, append([]int{wrong}, append(given, wrong)...), api.ErrNode)
		}
	}
	orderIs(t, d, upto(5), []int{1, 2, 3, 0, 4})
}

// roomy is a list with spare room behind its end, all filled.
func roomy(list []int) []int {
	whole := append(slices.Clone(list), -7, -8, -9)
	return whole[:len(list)]
}

// R4: what is handed in stays as it is, the spare room behind it too, whether there is an error or not.
func TestOrderLeavesItsArguments(t *testing.T) {
	d := mixed(t)
	for _, list := range [][]int{{}, {0}, {0, 1}, {4, 3, 2, 1, 0}, {0, 0, 1, 1, 3}, {0, 1, 5}, {-1, 0, 1}} {
		given := roomy(list)
		want := slices.Clone(given[:len(list)+3])
		answer, _ := d.Order(given...)
		if !slices.Equal(given[:len(list)+3], want) {
			t.Errorf("Order(%v) left %v", list, given[:len(list)+3])
		}
		spoil(answer)
		if !slices.Equal(given[:len(list)+3], want) {
			t.Errorf("Order(%v) shares memory with what was handed in: %v", list, given[:len(list)+3])
		}
	}
}

// What was handed in is not kept: its holder may write into it behind the call.
func TestOrderKeepsNoArguments(t *testing.T) {
	d := mixed(t)
	given := []int{0, 1, 2, 3, 4}
	answer, _ := d.Order(given...)
	stays(t, d, func() {
		for i := range given {
			given[i] = 9
		}
	})
	if !slices.Equal(answer, []int{1, 2, 3, 0, 4}) {
		t.Errorf("the answer is %v now", answer)
	}
	orderIs(t, d, upto(5), []int{1, 2, 3, 0, 4})
}

// spoil writes over a list and over the spare room behind it.
func spoil(list []int) {
	whole := list[:cap(list)]
	for i := range whole {
		whole[i] = -99
	}
	_ = append(list, -98)
}

// Asked twice, it answers the same, in memory of its own.
func TestOrderIsNewMemory(t *testing.T) {
	d := mixed(t)
	for n := range 6 {
		given := upto(5)[:n]
		one, _ := d.Order(given...)
		other, _ := d.Order(given...)
		want := slices.Clone(one)
		stays(t, d, func() { spoil(one) })
		if !slices.Equal(other, want) {
			t.Errorf("Order(%v): two answers share memory: %v", given, other)
		}
		orderIs(t, d, given, want)
	}
}

// Whoever holds an answer sees what was so when he asked.
func TestOrderStays(t *testing.T) {
	d := mixed(t)
	held, _ := d.Order(0, 1, 2, 3, 4)
	want := []int{1, 2, 3, 0, 4}
	for _, later := range []func(){
		func() { strike(t, d, 1, 2) },
		func() { goodIs(t, d, 3, api.OK) },
		func() { wait(t, d, 9) },
		func() { d.Order(4, 3, 2, 1, 0) },
	} {
		later()
		if !slices.Equal(held, want) {
			t.Fatalf("an answer that was held is %v now", held)
		}
	}
}
