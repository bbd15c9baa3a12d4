package shelf

import (
	"fmt"
	"runtime"
	"slices"
	"strings"
	"testing"
	"time"

	"granary/api"
	"granary/disk"
)

// P9.7

// TestTwoShelves: of one directory, and of two on one disk.
func TestTwoShelves(t *testing.T) {
	b, other := sample(), boxOf(east(), 2, 8, numbered(70))
	d := b.lay(t, "v")
	other.on(t, d, "w")
	first, third := opens(t, d, "v", b.c, 1, 7), opens(t, d, "w", b.c, 2, 8)
	var got, again []api.Pair
	for p := range first.All() {
		second := opens(t, d, "v", b.c, 1, 7)
		is(t, "Version", second.Version(), 7)
		for q := range second.All() {
			again = append(again, q)
			getIs(t, first, q.Key, q.Value, true, api.OK)
			break
		}
		got = append(got, p)
		readsAs(t, second, b.c, 1, harvest())
		is(t, "another version", third.Version(), 8)
	}
	want := plainAll(b.c, 1, harvest())
	if !slices.Equal(got, want) {
		t.Errorf("the first one's: %v", got)
	}
	is(t, "the second ones", len(again), len(want))
	readsAs(t, first, b.c, 1, harvest())
	readsAs(t, third, b.c, 2, numbered(70))
	// A shelf that is refused touches none that is open.
	put(t, d, "v/extra", "")
	refuses(t, "an extra file", d, "v", b.c, 1, 7, api.ErrExtra)
	readsAs(t, first, b.c, 1, harvest())
}

// roomy is the cluster E whose lists have spare room with something in it, and a way to look at all of that.
func roomy() (api.Cluster, func() string) {
	nodes := append(east().Nodes, holding(7), holding(8))
	parts := []int{0, 2, 40, 41}
	nodes[0].Parts = parts[:2]
	c := east()
	c.Nodes = nodes[:3]
	return c, func() string { return fmt.Sprint(nodes, parts) }
}

func TestClusterIsNotChanged(t *testing.T) {
	c, look := roomy()
	before := look()
	for _, x := range append(faults(), fault{what: "none"}) {
		s, e := Open(laid(t, x), "v", c, 1, 7)
		is(t, x.what, e, x.wrong)
		is(t, x.what, look(), before)
		if s != nil {
			readsAs(t, s, east(), 1, harvest())
			is(t, "behind all calls", look(), before)
		}
	}
}

func TestClusterIsNotKept(t *testing.T) {
	c, _ := roomy()
	b := sample()
	s := opens(t, b.lay(t, "v"), "v", c, 1, 7)
	all := s.All()
	c.Nodes[0].Parts[0], c.Nodes[0].Parts[1], c.Nodes[1].Parts[0] = 9, 9, 9
	readsAs(t, s, east(), 1, harvest())
	for i := range c.Nodes[:5] {
		c.Nodes[:5][i] = api.NodeDef{Zone: 99}
	}
	readsAs(t, s, east(), 1, harvest())
	if got := slices.Collect(all); !slices.Equal(got, plainAll(east(), 1, harvest())) {
		t.Errorf("All gives %v", got)
	}
	for i := range c.Nodes { // the same partitions, in other hands
		c.Nodes[i] = holding([][]int{{1}, {3}, {0, 2}}[i]...)
	}
	readsAs(t, s, east(), 1, harvest())
}

// TestNilAndEmpty: a node's list that is empty means the same as none.
func TestNilAndEmpty(t *testing.T) {
	none := settings("bare", 1, 1, 2, holding(0), api.NodeDef{})
	empty := settings("bare", 1, 1, 2, holding(0), api.NodeDef{Parts: []int{}})
	for node := range 2 {
		b := boxOf(none, node, 1, numbered(9))
		readsAs(t, opens(t, b.lay(t, "v"), "v", empty, node, 1), none, node, numbered(9))
	}
}

// TestGoroutinesEnd: none is left behind a call, whether it was done or refused.
func TestGoroutinesEnd(t *testing.T) {
	before := runtime.NumGoroutine()
	for _, x := range append(faults(), fault{what: "none"}) {
		d := laid(t, x)
		for range 5 {
			if s, _ := Open(d, "v", east(), 1, 7); s != nil {
				readsAs(t, s, east(), 1, harvest())
				for range s.All() {
					break
				}
			}
		}
	}
	for range 200 { // one that has told its last may take a moment to go
		if runtime.NumGoroutine() <= before {
			return
		}
		time.Sleep(time.Millisecond)
	}
	t.Errorf("%d goroutines, %d ahead of the calls", runtime.NumGoroutine(), before)
}

// TestTogether: what is found stands in the order of the looks, however they run.
func TestTogether(t *testing.T) {
	for _, n := range []int{0, 1, 2, 1025} {
		got := together(n, func(i int) int {
			if i%3 == 0 {
				runtime.Gosched()
			}
			return i * i
		})
		is(t, "looks", len(got), n)
		for i, x := range got {
			is(t, "a look", x, i*i)
		}
	}
}

// TestOddCalls: every call ends and none panics, whatever it is given.
func TestOddCalls(t *testing.T) {
	numbers := []int{leastInt, -1, 0, 1, 2, 3, 7, 15, 16, 17, 63, 64, 999999, 1000000, mostInt}
	texts := []string{"", "v", "w", "v/meta", "/", "v/", ".", "..", "\xff", "abc", text(255), text(256), strings.Repeat("a/", 9), text(100000)}
	lot := dice(1)
	any := func() int { return numbers[lot.roll(len(numbers))] }
	word := func() string { return texts[lot.roll(len(texts))] }
	d := sample().lay(t, "v")
	for range 3000 {
		c := []api.Cluster{{}, single(1), east(), east()}[lot.roll(4)]
		if lot.roll(3) == 0 {
			c.Replicas, c.Width, c.Chunks = any(), any(), any()
		}
		if lot.roll(5) == 0 && len(c.Nodes) > 0 {
			c.Nodes[0].Parts = []int{any(), any()}
		}
		on := []*disk.Disk{d, d, d, nil}[lot.roll(4)]
		node, version := []int{1, 1, any()}[lot.roll(3)], []int{7, 7, any()}[lot.roll(3)]
		s, e := Open(on, []string{"v", "v", word()}[lot.roll(3)], c, node, version)
		if (s == nil) != (e != api.OK) {
			t.Errorf("Open = %v, %d", s, e)
		}
		if value, found, e := s.Get(word()); e != api.OK && (value != "" || found) {
			t.Errorf("Get = %q, %v, %d", value, found, e)
		}
		if list, e := s.Scan(any()); e != api.OK && list != nil {
			t.Errorf("Scan = %v, %d", list, e)
		}
		drain(s)
	}
}
