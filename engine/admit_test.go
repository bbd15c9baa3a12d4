package engine

import (
	"fmt"
	"slices"
	"testing"

	"granary/api"
	"granary/disk"
)

// P12.7

// admitActs are the acts of Admit.
func admitActs(version int, files []api.Pair) []deed {
	dir := fmt.Sprint("store/fetch-", version)
	return slices.Concat(each("sync", dir, files), []deed{{"syncdir", dir, ""}, {"rename", dir, fmt.Sprint("store/version-", version)}, {"syncdir", "store", ""}})
}

func TestAdmitActs(t *testing.T) {
	for _, isSafe := range []bool{false, true} {
		for _, version := range []int{1, 3, 999999} {
			ready := func() *bench {
				b := served(t, alone(t), 2, 0, 2)
				b.fetched(t, version)
				if isSafe {
					safe(t, b.d)
				}
				return b
			}
			actsAre(t, fmt.Sprint("Admit of ", version), calling(ready, func(b *bench) api.Errno { return b.Admit(version) }), api.OK,
				admitActs(version, built(t, small(2), 0, version, data(version, 0))))
		}
	}
	b := second(t)
	b.fetched(t, 4)
	acts := b.d.Acts()
	done(t, b.Admit(4))
	is(t, "acts of ten files", b.d.Acts()-acts, 13)
	is(t, "nothing is pending", b.d.Pending(), 0)
}

func TestAdmitIsRefused(t *testing.T) {
	b := served(t, alone(t), 2, 1, 1, 2)
	put(t, b.d, "store/fetch-5", "a file")
	put(t, b.d, "store/fetch-06/x", "")
	put(t, b.d, "store/fetch-0/x", "")
	b.fetched(t, 2) // the engine has it: what is there is not looked at
	put(t, b.d, "store/fetch-2/journal", "")
	calm(t, "refused", b.d, func() {
		for _, v := range []int{leastInt, -1, 0, 1000000, mostInt} {
			is(t, fmt.Sprint("Admit of ", v), b.Admit(v), api.ErrVersion)
		}
		for _, v := range []int{3, 5, 6, 999999} {
			is(t, fmt.Sprint("Admit of ", v), b.Admit(v), api.ErrPartial)
		}
		for _, v := range []int{1, 2} {
			is(t, fmt.Sprint("Admit of ", v), b.Admit(v), api.OK)
		}
	})
	b.fetched(t, 3)
	down(t, b.d)
	calm(t, "down", b.d, func() {
		is(t, "no version", b.Admit(0), api.ErrVersion)
		is(t, "one that it has", b.Admit(1), api.OK)
		for _, v := range []int{3, 5, 7} {
			is(t, fmt.Sprint("Admit of ", v), b.Admit(v), api.ErrDown)
		}
	})
	stateIs(t, "not stuck", b.Engine, 2, 1, 1, 1, 1, 2)
	partialIs(t, "down", b.Engine)
	b.d.Crash(9999, 0)
	done(t, b.Admit(3)) // all survived: the engine goes on
	stateIs(t, "admitted", b.Engine, 2, 1, 1, 1, 1, 2, 3)
}

// What is not whole is not admitted, whatever it lacks, and nothing is done.
func TestAdmitOfWhatIsNotWhole(t *testing.T) {
	files := built(t, east(), 1, 3, data(3, 0))
	other := east()
	other.Store = "west"
	type fault struct {
		what  string
		spoil func(d *disk.Disk)
		want  api.Errno
	}
	all := []fault{
		{"a journal", func(d *disk.Disk) { put(t, d, "store/fetch-3/journal", "") }, api.ErrExtra},
		{"a directory", func(d *disk.Disk) { put(t, d, "store/fetch-3/more/", "") }, api.ErrExtra},
		{"no files", func(d *disk.Disk) { away(t, d, "store/fetch-3"); put(t, d, "store/fetch-3/", "") }, api.ErrMissing},
		{"another store's", func(d *disk.Disk) {
			away(t, d, "store/fetch-3")
			lay(t, d, "store/fetch-3", built(t, other, 1, 3, data(3, 0)))
		}, api.ErrOther},
		{"another version's", func(d *disk.Disk) {
			away(t, d, "store/fetch-3")
			lay(t, d, "store/fetch-3", built(t, east(), 1, 4, data(4, 0)))
		}, api.ErrOther},
		{"another node's", func(d *disk.Disk) {
			away(t, d, "store/fetch-3")
			lay(t, d, "store/fetch-3", built(t, east(), 0, 3, data(3, 0)))
		}, api.ErrMissing},
	}
	for _, f := range files {
		path := "store/fetch-3/" + f.Key
		all = append(all, fault{"without " + f.Key, func(d *disk.Disk) { done(t, d.Remove(path)) }, api.ErrMissing})
		want := api.ErrDamage
		if f.Key == "manifest" {
			want = api.ErrForm
		}
		all = append(all, fault{"more of " + f.Key, func(d *disk.Disk) { done(t, d.Append(path, "x")) }, want})
		if f.Value != "" && f.Key != "manifest" {
			turned := string(f.Value[0]^1) + f.Value[1:]
			all = append(all, fault{"a byte of " + f.Key, func(d *disk.Disk) { rewrite(t, d, path, turned) }, want})
			all = append(all, fault{"less of " + f.Key, func(d *disk.Disk) { done(t, d.Truncate(path, len(f.Value)-1)) }, want})
		}
	}
	for _, f := range all {
		b := served(t, second(t), 2, 1, 1, 2)
		b.fetched(t, 3)
		f.spoil(b.d)
		calm(t, f.what, b.d, func() { is(t, f.what, b.Admit(3), f.want) })
		stateIs(t, f.what, b.Engine, 2, 1, 1, 1, 1, 2)
		partialIs(t, f.what, b.Engine, 3)
		is(t, f.what+": Swap", b.Swap(3, 2, 1), api.ErrAbsent)
		away(t, b.d, "store/fetch-3")
		b.admitted(t, 3)
		done(t, b.Swap(3, 2, 1))
		serves(t, f.what+", mended", b.Engine, 3)
	}
}

func TestAdmitted(t *testing.T) {
	b := second(t)
	for i, v := range []int{10, 9, 999999, 1} {
		b.fetched(t, v)
		partialIs(t, "fetched", b.Engine, v)
		before := under(b.d, fmt.Sprint("store/fetch-", v))
		done(t, b.Admit(v))
		partialIs(t, "admitted", b.Engine)
		is(t, "versions", len(b.State().Have), i+1)
		same(t, "its files", under(b.d, fmt.Sprint("store/version-", v)), before)
		b.d.Crash(0, 0) // all of it is safe
		b.again(t)
		same(t, "its files, behind a crash", under(b.d, fmt.Sprint("store/version-", v)), before)
	}
	stateIs(t, "rising", b.Engine, 0, 0, 0, 0, 1, 9, 10, 999999)
	is(t, "names", names(t, b.d), "version-1 version-10 version-9 version-999999")
}

// Something that is not of the engine's own making is in the way: the error of the Rename is told.
func TestAdmitInTheWay(t *testing.T) {
	b := served(t, alone(t), 2, 0, 2)
	b.fetched(t, 3)
	put(t, b.d, "store/version-3/x", "")
	is(t, "Admit", b.Admit(3), api.ErrThere)
	isStuck(t, "behind it", b.Engine)
	b.again(t)
	stateIs(t, "opened anew", b.Engine, 2, 0, 1, 1, 2)
	done(t, b.Admit(3))
	stateIs(t, "admitted", b.Engine, 2, 0, 1, 1, 2, 3)
}

// P12.5

func TestPartial(t *testing.T) {
	b := alone(t)
	partialIs(t, "none", b.Engine)
	for _, v := range []int{10, 9, 100, 1, 999999} {
		put(t, b.d, fmt.Sprintf("store/fetch-%d/", v), "")
	}
	for _, path := range []string{"store/fetch-2", "store/fetch-0/", "store/fetch-01/", "store/fetch-x/", "store/fetch-1000000/", "store/fetch/", "store/fetch-/", "store/version-7/", "fetch-8/", "store/x/fetch-4/", "store/xfetch-5/"} {
		put(t, b.d, path, "")
	}
	calm(t, "Partial", b.d, func() { partialIs(t, "rising", b.Engine, 1, 9, 10, 100, 999999) })
	away(t, b.d, "store/fetch-9")
	away(t, b.d, "store/fetch-2")
	put(t, b.d, "store/fetch-2/half", "x")
	partialIs(t, "they come and go", b.Engine, 1, 2, 10, 100, 999999)
	list := b.Partial()
	clear(list[:cap(list)])
	partialIs(t, "written over", b.Engine, 1, 2, 10, 100, 999999)
	down(t, b.d)
	partialIs(t, "down", b.Engine)
	b.d.Crash(9999, 0)
	partialIs(t, "up again", b.Engine, 1, 2, 10, 100, 999999)
}

func TestStateIsNewMemory(t *testing.T) {
	b := served(t, alone(t), 2, 1, 1, 2, 3)
	s := b.State()
	clear(s.Have[:cap(s.Have)])
	stateIs(t, "written over", b.Engine, 2, 1, 1, 1, 1, 2, 3)
	s = b.State()
	_ = append(s.Have[:1], 7, 8, 9)
	stateIs(t, "appended to", b.Engine, 2, 1, 1, 1, 1, 2, 3)
	down(t, b.d)
	calm(t, "State", b.d, func() { stateIs(t, "down", b.Engine, 2, 1, 1, 1, 1, 2, 3) })
}

func TestNoEngine(t *testing.T) {
	saysNo(t, "nil", nil, api.ErrNil)
	saysNo(t, "one that Open did not make", new(Engine), api.ErrNil)
}

// P12.10

func TestPrune(t *testing.T) {
	for _, c := range []struct {
		retain, cur, prev int
		have, gone        []int
	}{
		{1, 0, 0, nil, nil},
		{1, 0, 0, []int{5}, nil},
		{1, 0, 0, []int{5, 6}, []int{5}},
		{1, 6, 5, []int{5, 6}, nil},
		{1, 5, 0, []int{5, 6}, nil},
		{1, 3, 0, []int{1, 2, 3, 4, 5}, []int{1, 2, 4}},
		{1, 1, 2, []int{1, 2, 3, 4, 5}, []int{3, 4}},
		{1, 2, 2, []int{1, 2, 3}, []int{1}},
		{2, 4, 1, []int{1, 2, 3, 4}, []int{2}},
		{2, 1, 2, []int{1, 2, 3, 4}, nil},
		{2, 0, 0, []int{8, 9, 10, 11, 100, 999999}, []int{8, 9, 10, 11}},
		{2, 9, 0, []int{8, 9, 10, 11, 100, 999999}, []int{8, 10, 11}},
		{8, 0, 0, []int{1, 2, 3, 4, 5, 6, 7, 8}, nil},
		{8, 0, 0, []int{1, 2, 3, 4, 5, 6, 7, 8, 9}, []int{1}},
		{8, 1, 2, []int{1, 2, 3, 4, 5, 6, 7, 8, 9, 10, 11}, []int{3}},
		{8, 11, 10, []int{1, 2, 3, 4, 5, 6, 7, 8, 9, 10, 11}, []int{1, 2, 3}},
	} {
		what := fmt.Sprintf("%+v", c)
		ready := func() *bench {
			b := at(t, small(c.retain), 0)
			b.admitted(t, c.have...)
			if c.cur != 0 {
				points(t, b.d, c.cur, c.prev, 1, 1)
			}
			safe(t, b.d)
			b.again(t)
			return b
		}
		var want [][]deed
		for _, v := range c.gone {
			want = append(want, discarding(v, built(t, small(c.retain), 0, v, data(v, 0))))
		}
		b := ready()
		acts := b.d.Acts()
		list, e := b.Prune()
		if !slices.Equal(list, c.gone) || e != api.OK {
			t.Errorf("%s: Prune = %v, %d", what, list, e)
		}
		is(t, what+": acts", b.d.Acts()-acts, 8*len(c.gone))
		if len(c.gone) < 3 {
			actsAre(t, what, calling(ready, func(b *bench) api.Errno { _, e := b.Prune(); return e }), api.OK, want...)
		}
		var left []int
		for _, v := range c.have {
			if !slices.Contains(c.gone, v) {
				left = append(left, v)
			}
		}
		clear(list[:cap(list)])
		b.holds(t, what, left, c.gone)
		calm(t, what, b.d, func() {
			if list, e := b.Prune(); len(list) != 0 || e != api.OK {
				t.Errorf("%s: Prune again = %v, %d", what, list, e)
			}
		})
		s := b.State()
		b.again(t)
		same(t, what+": opened anew", b.State(), s)
		b.holds(t, what, left, c.gone)
	}
}

// holds holds that an engine has these versions and not those.
func (b *bench) holds(t *testing.T, what string, left, gone []int) {
	t.Helper()
	if got := b.State().Have; !slices.Equal(got, left) {
		t.Errorf("%s: it has %v, want %v", what, got, left)
	}
	for _, v := range left {
		if _, n, e := b.Sum(v, 0); n != 5 || e != api.OK {
			t.Errorf("%s: Sum(%d) = %d, %d", what, v, n, e)
		}
	}
	for _, v := range gone {
		if _, _, e := b.Sum(v, 0); e != api.ErrAbsent || has(b.d, Dir(v)) || has(b.d, fmt.Sprint("store/trash-", v)) {
			t.Errorf("%s: version %d: %d", what, v, e)
		}
		is(t, what+": Swap", b.Swap(v, 9, 9), api.ErrAbsent)
	}
}

// A version that was pruned may come again.
func TestPrunedAndAdmittedAgain(t *testing.T) {
	b := at(t, small(1), 0)
	b.admitted(t, 1, 2)
	if list, e := b.Prune(); !slices.Equal(list, []int{1}) || e != api.OK {
		t.Errorf("Prune = %v, %d", list, e)
	}
	lay(t, b.d, "store/fetch-1", built(t, b.c, 0, 1, data(1, 7)))
	done(t, b.Admit(1), b.Swap(1, 1, 1))
	getIs(t, "the new one", b.Engine, "abc", api.Answer{Version: 1, Found: true, Value: "abc-1-7"}, api.OK)
}

func TestPruneOnADiskThatIsDown(t *testing.T) {
	b := at(t, small(1), 0)
	b.admitted(t, 1, 2)
	done(t, b.Swap(1, 1, 1))
	down(t, b.d)
	if list, e := b.Prune(); len(list) != 0 || e != api.OK {
		t.Errorf("nothing to discard: %v, %d", list, e)
	}
	stateIs(t, "not stuck", b.Engine, 1, 0, 1, 1, 1, 2)
	b.d.Crash(0, 0)
	b.admitted(t, 3)
	down(t, b.d)
	if list, e := b.Prune(); len(list) != 0 || e != api.ErrDown {
		t.Errorf("one to discard: %v, %d", list, e)
	}
	isStuck(t, "behind it", b.Engine)
}

// The second of two discards is broken off: no list is told.
func TestPruneBrokenOff(t *testing.T) {
	b := at(t, small(1), 0)
	b.admitted(t, 1, 2, 3)
	done(t, b.d.Arm(9))
	if list, e := b.Prune(); len(list) != 0 || e != api.ErrDown {
		t.Errorf("Prune = %v, %d", list, e)
	}
	b.d.Crash(0, 0)
	b.again(t)
	stateIs(t, "opened anew", b.Engine, 0, 0, 0, 0, 2, 3)
	if list, e := b.Prune(); !slices.Equal(list, []int{2}) || e != api.OK {
		t.Errorf("Prune = %v, %d", list, e)
	}
}
