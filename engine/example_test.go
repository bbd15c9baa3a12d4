package engine

import (
	"slices"
	"strings"
	"testing"

	"granary/api"
	"granary/disk"
)

// The chapter's examples: the cluster E, node 1, a disk of 100000 bytes.

// exampled is that node.
func exampled(t *testing.T) *bench {
	t.Helper()
	d := fresh(t, 100000)
	return &bench{opens(t, d, east(), 1), d, east(), 1}
}

func TestExample1(t *testing.T) {
	b := exampled(t)
	is(t, "acts", b.d.Acts(), 2)
	stateIs(t, "State", b.Engine, 0, 0, 0, 0)
	getIs(t, "Get", b.Engine, "abc", api.Answer{}, api.ErrEmpty)
	is(t, "Admit(1)", b.Admit(1), api.ErrPartial)
	is(t, "Swap(1, 1, 1)", b.Swap(1, 1, 1), api.ErrAbsent)
	is(t, "Swap(0, 1, 1)", b.Swap(0, 1, 1), api.ErrVersion)
	is(t, "Swap(1, -1, 1)", b.Swap(1, -1, 1), api.ErrArg)
	is(t, "Swap(0, -1, 1)", b.Swap(0, -1, 1), api.ErrArg)
}

// first is the node of example 2, at its end.
func first(t *testing.T) *bench {
	t.Helper()
	b := exampled(t)
	b.fetched(t, 1)
	partialIs(t, "fetched", b.Engine, 1)
	acts := b.d.Acts()
	done(t, b.Admit(1))
	is(t, "acts of Admit", b.d.Acts()-acts, 13)
	stateIs(t, "admitted", b.Engine, 0, 0, 0, 0, 1)
	partialIs(t, "admitted", b.Engine)
	calm(t, "Admit again", b.d, func() { done(t, b.Admit(1)) })
	acts = b.d.Acts()
	done(t, b.Swap(1, 1, 1))
	is(t, "acts of Swap", b.d.Acts()-acts, 5)
	stateIs(t, "swapped", b.Engine, 1, 0, 1, 1, 1)
	serves(t, "swapped", b.Engine, 1)
	return b
}

// third is the node of example 3, with version 2.
func third(t *testing.T) *bench {
	t.Helper()
	b := first(t)
	calm(t, "orders", b.d, func() {
		is(t, "Swap(1, 1, 1)", b.Swap(1, 1, 1), api.OK)
		is(t, "Swap(1, 1, 0)", b.Swap(1, 1, 0), api.ErrStale)
		is(t, "Swap(2, 1, 1)", b.Swap(2, 1, 1), api.ErrStale)
		is(t, "Swap(2, 1, 2)", b.Swap(2, 1, 2), api.ErrAbsent)
	})
	b.admitted(t, 2)
	done(t, b.Swap(2, 2, 1))
	stateIs(t, "swapped again", b.Engine, 2, 1, 2, 1, 1, 2)
	return b
}

func TestExample2(t *testing.T) { first(t) }

func TestExample3(t *testing.T) {
	b := third(t)
	done(t, b.Rollback(2, 2))
	stateIs(t, "rolled back", b.Engine, 1, 1, 2, 2, 1, 2)
	calm(t, "orders", b.d, func() {
		is(t, "Rollback(2, 2)", b.Rollback(2, 2), api.OK)
		is(t, "Swap(2, 2, 1)", b.Swap(2, 2, 1), api.ErrStale)
	})
}

func TestExample4(t *testing.T) {
	b := third(t)
	done(t, b.Rollback(3, 2))
	stateIs(t, "rolled back", b.Engine, 2, 2, 3, 2, 1, 2)
	is(t, "Swap(1, 3, 1) comes late", b.Swap(1, 3, 1), api.ErrStale)
}

func TestExample5(t *testing.T) {
	for _, c := range []struct {
		cur, prev  int
		gone, left []int
	}{{4, 1, []int{2}, []int{1, 3, 4}}, {1, 2, nil, []int{1, 2, 3, 4}}} {
		b := exampled(t)
		b.admitted(t, 1, 2, 3, 4)
		done(t, b.Swap(c.prev, 1, 1), b.Swap(c.cur, 2, 1))
		if list, e := b.Prune(); !slices.Equal(list, c.gone) || e != api.OK {
			t.Errorf("Prune = %v, %d, want %v", list, e, c.gone)
		}
		stateIs(t, "pruned", b.Engine, c.cur, c.prev, 2, 1, c.left...)
	}
}

func TestExample6(t *testing.T) {
	for _, c := range []struct {
		fuse, keep int
		isNew      bool
	}{{3, 9, false}, {4, 9, true}, {4, 0, false}} {
		b := first(t)
		b.admitted(t, 2)
		done(t, b.d.Arm(c.fuse))
		acts := b.d.Acts()
		is(t, "Swap", b.Swap(2, 2, 1), api.ErrDown)
		is(t, "acts", b.d.Acts()-acts, c.fuse)
		same(t, "State", b.State(), api.State{})
		getIs(t, "Get", b.Engine, "abc", api.Answer{}, api.ErrStuck)
		is(t, "latest.new", strings.Contains(dumped(b.d), "store/latest.new"), c.fuse == 3)
		b.d.Crash(c.keep, 0)
		b.again(t)
		is(t, "names", names(t, b.d), "latest version-1 version-2")
		if c.isNew {
			stateIs(t, "as behind it", b.Engine, 2, 1, 2, 1, 1, 2)
		} else {
			stateIs(t, "as ahead of it", b.Engine, 1, 0, 1, 1, 1, 2)
		}
	}
}

// dumped is the paths of all that is seen.
func dumped(d *disk.Disk) string {
	var all []string
	for _, x := range d.Dump() {
		all = append(all, x.Path)
	}
	return strings.Join(all, " ")
}

func TestExample7(t *testing.T) {
	b := first(t)
	b.admitted(t, 2)
	fill(t, b.d, 20)
	acts := b.d.Acts()
	is(t, "Swap", b.Swap(2, 2, 1), api.ErrFull)
	is(t, "acts", b.d.Acts()-acts, 2)
	stateIs(t, "as it was", b.Engine, 1, 0, 1, 1, 1, 2)
	serves(t, "as before", b.Engine, 1)
}

func TestExample8(t *testing.T) {
	b := first(t)
	b.fetched(t, 2)
	text := bytesOf(t, b.d, "store/fetch-2/0_1_0.data")
	rewrite(t, b.d, "store/fetch-2/0_1_0.data", text[:9]+"X"+text[10:])
	calm(t, "a byte", b.d, func() { is(t, "Admit", b.Admit(2), api.ErrDamage) })
	put(t, b.d, "store/fetch-2/journal", "")
	calm(t, "a journal", b.d, func() { is(t, "Admit", b.Admit(2), api.ErrExtra) })
}

func TestExample9(t *testing.T) {
	lie := func(d *disk.Disk) {
		lay(t, d, "store/version-5", built(t, east(), 1, 5, data(5, 0))[:3])
		put(t, d, "store/trash-4/x", "x")
	}
	actsAre(t, "Open", opening(t, east(), 1, lie), api.OK,
		deeds("remove store/trash-4/x\nremove store/trash-4\nsyncdir store"), discarding(5, built(t, east(), 1, 5, data(5, 0))[:3]))
	d := fresh(t, 100000)
	lie(d)
	points(t, d, 5, 0, 1, 1)
	refuses(t, "Cur is 5", d, east(), 1, api.ErrCurrent)
}

func TestExample10(t *testing.T) {
	d := fresh(t, 100000)
	put(t, d, "store/latest", "x")
	refuses(t, "x", d, east(), 1, api.ErrPointer)
	d = fresh(t, 100000)
	put(t, d, "store", "")
	refuses(t, "a file", d, east(), 1, api.ErrKind)
	refuses(t, "node 3", fresh(t, 100000), east(), 3, api.ErrNode)
}

// TestReadme is what README.md shows.
func TestReadme(t *testing.T) {
	d, c := fresh(t, 100000), east()
	x, e := Open(d, c, 1)
	done(t, e)
	for v := 1; v <= 2; v++ {
		lay(t, d, PartialDir(v), built(t, c, 1, v, []api.Pair{{Key: "abc", Value: []string{"old", "new"}[v-1]}}))
	}
	same(t, "Partial", x.Partial(), []int{1, 2})
	done(t, x.Admit(1), x.Admit(2), x.Swap(1, 1, 1), x.Swap(2, 2, 1))
	same(t, "State", x.State(), api.State{Cur: 2, Prev: 1, Epoch: 2, Seq: 1, Have: []int{1, 2}})
	getIs(t, "Get", x, "abc", api.Answer{Version: 2, Found: true, Value: "new"}, api.OK)
	is(t, "a late order", x.Swap(1, 1, 1), api.ErrStale)
	done(t, x.Rollback(2, 2))
	getIs(t, "Get", x, "abc", api.Answer{Version: 1, Found: true, Value: "old"}, api.OK)
	sum, n, e := x.Sum(2, 0)
	is(t, "Sum", sum, sumOf([]api.Pair{{Key: "abc", Value: "new"}}))
	is(t, "Sum", n, 1)
	is(t, "Sum", e, api.OK)
	entryIs(t, "Entry", x, 2, 0, 0, api.Pair{Key: "abc", Value: "new"}, api.OK)
	list, e := x.Prune()
	is(t, "Prune", len(list), 0)
	is(t, "Prune", e, api.OK)
	done(t, d.Arm(3))
	is(t, "Swap", x.Swap(2, 3, 1), api.ErrDown)
	getIs(t, "Get", x, "abc", api.Answer{}, api.ErrStuck)
	d.Crash(0, 0)
	x, e = Open(d, c, 1)
	done(t, e)
	same(t, "State", x.State(), api.State{Cur: 1, Prev: 1, Epoch: 2, Seq: 2, Have: []int{1, 2}})
}
