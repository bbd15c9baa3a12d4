package engine

import (
	"fmt"
	"slices"
	"strings"
	"testing"

	"granary/api"
	"granary/disk"
)

// P12.2: two engines of two disks never touch one another.
func TestTwoEngines(t *testing.T) {
	one, other := alone(t), second(t)
	for v := 1; v <= 3; v++ {
		one.fetched(t, v)
		other.fetched(t, v)
		calm(t, "the other", other.d, func() { done(t, one.Admit(v)) })
		stateIs(t, "the other", other.Engine, max(0, v-1), max(0, v-2), max(0, v-1), min(1, v-1), []int{1, 2, 3}[:v-1]...)
		calm(t, "the one", one.d, func() { done(t, other.Admit(v)) })
		calm(t, "the other", other.d, func() { done(t, one.Swap(v, 2*v, 1)) })
		calm(t, "the one", one.d, func() { done(t, other.Swap(v, v, 1)) })
		stateIs(t, "the one", one.Engine, v, v-1, 2*v, 1, []int{1, 2, 3}[:v]...)
		stateIs(t, "the other", other.Engine, v, v-1, v, 1, []int{1, 2, 3}[:v]...)
	}
	done(t, one.d.Arm(2))
	is(t, "Swap", one.Swap(1, 9, 1), api.ErrDown)
	isStuck(t, "the one", one.Engine)
	stateIs(t, "the other", other.Engine, 3, 2, 3, 1, 1, 2, 3)
	done(t, other.Swap(1, 9, 1))
	serves(t, "the other", other.Engine, 1)
	one.d.Crash(0, 0)
	one.again(t)
	stateIs(t, "the one, opened anew", one.Engine, 3, 2, 6, 1, 1, 2, 3)
	stateIs(t, "the other", other.Engine, 1, 3, 9, 1, 1, 2, 3)
}

// A stuck engine stays so, whatever becomes of the disk.
func TestStuckForGood(t *testing.T) {
	b := served(t, alone(t), 2, 1, 1, 2)
	done(t, b.d.Arm(0))
	is(t, "Swap", b.Swap(1, 2, 1), api.ErrDown)
	isStuck(t, "down", b.Engine)
	b.d.Crash(9, 9)
	x := opens(t, b.d, b.c, b.node)
	b.fetched(t, 3)
	calm(t, "stuck", b.d, func() { isStuck(t, "up again", b.Engine) })
	done(t, x.Admit(3), x.Swap(3, 3, 1))
	isStuck(t, "and later", b.Engine)
}

// What may come and go while the engine is open: partial directories, and things of others.
func TestOthersComeAndGo(t *testing.T) {
	b := served(t, alone(t), 2, 1, 1, 2)
	put(t, b.d, "store/fetch-9/half", "x")
	put(t, b.d, "store/another/thing", "x")
	put(t, b.d, "store/version-0/x", "x")
	put(t, b.d, "elsewhere/version-4/x", "x")
	stateIs(t, "as it was", b.Engine, 2, 1, 1, 1, 1, 2)
	serves(t, "as it was", b.Engine, 2)
	b.fetched(t, 3)
	done(t, b.d.Append("store/fetch-9/half", "y"), b.Admit(3), b.Swap(3, 2, 1))
	away(t, b.d, "store/fetch-9")
	list, e := b.Prune()
	if !slices.Equal(list, []int{1}) || e != api.OK {
		t.Errorf("Prune = %v, %d", list, e)
	}
	stateIs(t, "pruned", b.Engine, 3, 2, 2, 1, 2, 3)
	is(t, "names", names(t, b.d), "another latest version-0 version-2 version-3")
}

// P12.13

// roomy is E with more behind its lists, and what tells all of its memory.
func roomy() (api.Cluster, func() string) {
	nodes := append(east().Nodes, api.NodeDef{Parts: []int{7}}, api.NodeDef{Zone: 5})
	parts := []int{0, 2, 40, 41}
	nodes[0].Parts = parts[:2]
	c := east()
	c.Nodes = nodes[:3]
	return c, func() string { return fmt.Sprint(nodes, parts) }
}

func TestClusterIsNotChanged(t *testing.T) {
	c, look := roomy()
	before := look()
	d := fresh(t, 100000)
	b := &bench{opens(t, d, c, 1), d, east(), 1}
	put(t, d, "store/version-6/x", "")
	b.Engine = opens(t, d, c, 1)
	served(t, b, 2, 1, 1, 2, 3)
	b.Rollback(1, 2)
	b.Prune()
	reads(t, "all", b.Engine, east(), 1, 2, data(2, 0))
	is(t, "the cluster", look(), before)
	for e, c := range wrongClusters() {
		text := fmt.Sprint(c)
		refuses(t, "a wrong one", d, c, 1, e)
		is(t, "a wrong one", fmt.Sprint(c), text)
	}
}

func TestClusterIsNotKept(t *testing.T) {
	for _, change := range []func(c api.Cluster){
		func(c api.Cluster) { c.Nodes[0].Parts[0], c.Nodes[0].Parts[1], c.Nodes[1].Parts[0] = 9, 9, 9 },
		func(c api.Cluster) { clear(c.Nodes) },
		func(c api.Cluster) {
			for i := range c.Nodes { // the same partitions, in other hands
				c.Nodes[i] = api.NodeDef{Parts: [][]int{{1}, {3}, {0, 2}}[i]}
			}
		},
	} {
		c, _ := roomy()
		d := fresh(t, 100000)
		b := &bench{opens(t, d, c, 1), d, east(), 1}
		b.admitted(t, 1)
		b.Engine = opens(t, d, c, 1)
		change(c)
		b.admitted(t, 2, 3, 4)
		done(t, b.Swap(1, 0, 1), b.Swap(2, 1, 1))
		stateIs(t, "all of them", b.Engine, 2, 1, 1, 1, 1, 2, 3, 4)
		for v := 1; v <= 4; v++ {
			reads(t, "all of them", b.Engine, b.c, 1, v, data(v, 0))
		}
	}
}

func TestClusterWithEmptyLists(t *testing.T) {
	c := small(1)
	c.Nodes = append(c.Nodes, api.NodeDef{Parts: []int{}})
	twin := small(1)
	twin.Nodes = append(twin.Nodes, api.NodeDef{})
	d := fresh(t, 100000)
	b := &bench{opens(t, d, c, 1), d, twin, 1}
	b.admitted(t, 1)
	b.again(t)
	stateIs(t, "nil or empty", b.Engine, 0, 0, 0, 0, 1)
}

// Any numbers, any keys, in any order of the calls.
func TestOddCalls(t *testing.T) {
	numbers := []int{leastInt, leastInt + 1, -1, 0, 1, 2, 3, 4, 15, 16, 63, 64, 999998, 999999, 1000000, most - 1, most, most + 1, mostInt - 1, mostInt}
	keys := []string{"", "abc", "\x00", "\xff\xfe", strings.Repeat("k", 255), strings.Repeat("k", 256), strings.Repeat("k", 100000)}
	for seed := range 60 {
		lot := dice(seed)
		number := func() int { return numbers[lot.roll(len(numbers))] }
		b := served(t, second(t), 2, 1, 1, 2, 3)
		if seed%3 == 0 {
			done(t, b.d.Arm(lot.roll(12)))
		}
		for range 200 {
			switch lot.roll(8) {
			case 0:
				b.Admit(number())
			case 1:
				b.Swap(number(), number(), number())
			case 2:
				b.Rollback(number(), number())
			case 3:
				if a, e := b.Get(keys[lot.roll(len(keys))]); e != api.OK && a != (api.Answer{}) {
					t.Errorf("Get = %+v, %d", a, e)
				}
			case 4:
				if s, n, e := b.Sum(number(), number()); e != api.OK && (s != "" || n != 0) || e == api.OK && len(s) != 16 {
					t.Errorf("Sum = %x, %d, %d", s, n, e)
				}
			case 5:
				if p, e := b.Entry(number(), number(), number()); e != api.OK && p != (api.Pair{}) {
					t.Errorf("Entry = %v, %d", p, e)
				}
			case 6:
				b.State()
				b.Partial()
			case 7:
				if l, e := b.Prune(); e != api.OK && len(l) != 0 {
					t.Errorf("Prune = %v, %d", l, e)
				}
			}
		}
		for range 50 {
			on := []*disk.Disk{nil, new(disk.Disk), b.d}[lot.roll(3)]
			c := []api.Cluster{{}, east(), {Nodes: make([]api.NodeDef, lot.roll(20))}}[lot.roll(3)]
			if lot.roll(3) == 0 {
				c.Retain, c.Chunks, c.Replicas = number(), number(), number()
			}
			if x, e := Open(on, c, number()); (x == nil) != (e != api.OK) {
				t.Errorf("Open = %v, %d", x != nil, e)
			}
		}
	}
}

// Somebody else changes the store behind the engine's back, or the disk crashes: every call ends, and a new Open is what the chapter says.
func TestChangedByOthers(t *testing.T) {
	for what, change := range map[string]func(b *bench){
		"a crash":            func(b *bench) { b.d.Crash(0, 0) },
		"all gone":           func(b *bench) { away(t, b.d, "store") },
		"a file for all":     func(b *bench) { away(t, b.d, "store"); put(t, b.d, "store", "") },
		"a version gone":     func(b *bench) { away(t, b.d, "store/version-2") },
		"a file for it":      func(b *bench) { away(t, b.d, "store/version-2"); put(t, b.d, "store/version-2", "") },
		"a version cut":      func(b *bench) { done(t, b.d.Truncate("store/version-2/0_1_0.data", 3)) },
		"an index cut":       func(b *bench) { done(t, b.d.Truncate("store/version-2/0_1_0.index", 0)) },
		"the pointer gone":   func(b *bench) { done(t, b.d.Remove("store/latest")) },
		"a directory for it": func(b *bench) { done(t, b.d.Remove("store/latest"), b.d.Mkdir("store/latest")) },
		"trash":              func(b *bench) { put(t, b.d, "store/trash-1/x", "") },
		"a second engine":    func(b *bench) { done(t, opens(t, b.d, b.c, b.node).Swap(3, 5, 1)) },
		"the disk is down":   func(b *bench) { down(t, b.d) },
	} {
		b := served(t, second(t), 2, 1, 1, 2, 3)
		b.fetched(t, 4)
		change(b)
		for range 2 {
			b.State()
			b.Partial()
			for _, key := range []string{"abc", "oat", "rye", "fig", "plum", ""} {
				b.Get(key)
			}
			for v := range 6 {
				for part := -1; part < 5; part++ {
					b.Sum(v, part)
					b.Entry(v, part, 0)
				}
			}
			b.Admit(4)
			b.Swap(1, 2, 1)
			b.Rollback(2, 2)
			b.Prune()
		}
		x, e := Open(b.d, b.c, b.node)
		if (x == nil) != (e != api.OK) {
			t.Errorf("%s: Open = %v, %d", what, x != nil, e)
		}
		if x != nil {
			s := x.State()
			same(t, what, opens(t, b.d, b.c, b.node).State(), s)
			for _, v := range s.Have {
				reads(t, what, x, b.c, b.node, v, data(v, 0))
			}
		}
	}
}
