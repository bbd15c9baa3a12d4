package router

import (
	"slices"
	"strconv"
	"strings"
	"testing"

	"granary/api"
)

// P17.3

func TestGetAllOfNone(t *testing.T) {
	r := made(t, east())
	for _, open := range []int{0, 1, 63, 64} {
		fills(t, r, "abc", 0, r.last+1, open-r.Open())
		stays(t, r, func() {
			getAllIs(t, r, nil, 0)
			getAllIs(t, r, []string{}, 0)
			getAllIs(t, r, make([]string, 0, 5), 0)
			if n, list, e := r.GetAll(); n != 0 || len(list) != 0 || e != api.OK {
				t.Errorf("GetAll() = %d, %v, %d", n, list, e)
			}
		})
		openIs(t, r, open)
	}
}

func TestGetAllOfOne(t *testing.T) {
	one, other := made(t, east()), made(t, east())
	for i := range 64 {
		getAllIs(t, one, []string{"abc"}, i+1, ask(0, i+1, "abc"))
		getIs(t, other, "abc", i+1, 0)
		is(t, "what it knows", kept(one), kept(other))
	}
	getAllFails(t, one, []string{"abc"}, api.ErrOpen)
	getAllFails(t, one, []string{""}, api.ErrKey)
	getAllFails(t, one, []string{strings.Repeat("k", 256)}, api.ErrKey)
}

// The tickets and messages stand in the keys' order, a key several times too.
func TestGetAllOfSeveral(t *testing.T) {
	c := round(3, 2, 2, 2, 10)
	a, b, d := keyIn(t, c, 0), keyIn(t, c, 1), keyIn(t, c, 2)
	r := made(t, c)
	getAllIs(t, r, []string{d, a, b}, 1, ask(2, 1, d), ask(0, 2, a), ask(1, 3, b))
	getAllIs(t, r, []string{a, a, a}, 4, ask(0, 4, a), ask(0, 5, a), ask(0, 6, a))
	getAllIs(t, r, []string{b, d, b, a, b}, 7, ask(1, 7, b), ask(2, 8, d), ask(1, 9, b), ask(0, 10, a), ask(1, 11, b))
	openIs(t, r, 11)
	// Each is a get of its own.
	takeIs(t, r, got(0, 5, a, api.OK, 7, "v"), nil, ends(found(5, a, 0, 7, "v")))
	takeIs(t, r, got(0, 6, a, api.ErrEmpty, 0, ""), out(ask(1, 6, a)), nil)
	takeIs(t, r, got(0, 4, a, api.ErrNoKey, 8, ""), nil, ends(lacks(4, a, 0, 8)))
	takeIs(t, r, got(1, 9, b, api.OK, 9, "w"), nil, ends(found(9, b, 1, 9, "w")))
	openIs(t, r, 8)
}

// It is as a Get of each, at several places of a router.
func TestGetAllIsAsGets(t *testing.T) {
	lot := dice(173)
	for range 300 {
		c := round(4, 1+lot.roll(4), 1+lot.roll(3), 1, 10)
		c.Home = lot.roll(4)
		one, other := made(t, c), made(t, c)
		for range 8 {
			var keys []string
			for range lot.roll(9) {
				keys = append(keys, strconv.Itoa(lot.roll(20)))
			}
			first, list, e := one.GetAll(keys...)
			is(t, "GetAll", e, api.OK)
			for i, key := range keys {
				n, out, e := other.Get(key)
				if n != first+i || !slices.Equal(out, list[i:i+1]) || e != api.OK {
					t.Fatalf("Get(%q) = %d, %v, %d, of GetAll came %d, %v", key, n, out, e, first+i, list[i:i+1])
				}
			}
			is(t, "the messages", len(list), len(keys))
			is(t, "what it knows", kept(one), kept(other))
			one.Tick()
			other.Tick()
		}
	}
}

// A bad key at the first, a middle and the last place: no get is opened, no ticket is used.
func TestGetAllWithABadKey(t *testing.T) {
	r := made(t, east())
	getIs(t, r, "abc", 1, 0)
	for _, bad := range []string{"", strings.Repeat("k", 256), strings.Repeat("\x00", 1000)} {
		for n := 1; n <= 5; n++ {
			for at := range n {
				keys := slices.Repeat([]string{"abc"}, n)
				keys[at] = bad
				stays(t, r, func() { getAllFails(t, r, keys, api.ErrKey) })
			}
			stays(t, r, func() { getAllFails(t, r, slices.Repeat([]string{bad}, n), api.ErrKey) })
		}
	}
	openIs(t, r, 1)
	edge := strings.Repeat("k", 255)
	_, list, e := r.GetAll("a", edge)
	if e != api.OK || len(list) != 2 || list[0].Id != 2 || list[1].Id != 3 || list[1].Key != edge {
		t.Errorf("GetAll with a key of 255 bytes = %v, %d", list, e)
	}
}

// So many open, and so many more: up to 64 in all, and not one past it. A bad key is told first, where there are too many too.
func TestGetAllAtTheMost(t *testing.T) {
	for _, open := range []int{0, 1, 2, 31, 62, 63, 64} {
		for _, more := range []int{1, 2, 3, 33, 62, 63, 64, 65, 66, 200} {
			r := made(t, east())
			fills(t, r, "abc", 0, 1, open)
			keys := slices.Repeat([]string{"abc"}, more)
			if open+more > 64 {
				stays(t, r, func() {
					getAllFails(t, r, keys, api.ErrOpen)
					keys[more-1] = ""
					getAllFails(t, r, keys, api.ErrKey)
				})
				openIs(t, r, open)
				continue
			}
			var want []api.Msg
			for i := range more {
				want = append(want, ask(0, open+1+i, "abc"))
			}
			getAllIs(t, r, keys, open+1, want...)
			openIs(t, r, open+more)
		}
	}
}

// What can be opened again when gets have ended, by answers and by ticks.
func TestGetAllAnew(t *testing.T) {
	r := made(t, east())
	_, _, e := r.GetAll(slices.Repeat([]string{"abc"}, 64)...)
	is(t, "GetAll", e, api.OK)
	getAllFails(t, r, []string{"abc"}, api.ErrOpen)
	takeIs(t, r, got(0, 9, "abc", api.OK, 7, "v"), nil, ends(found(9, "abc", 0, 7, "v")))
	getAllFails(t, r, []string{"abc", "abc"}, api.ErrOpen)
	getAllIs(t, r, []string{"abc"}, 65, ask(0, 65, "abc"))
	getFails(t, r, "abc", api.ErrOpen)
	for range 4 {
		r.Tick()
	}
	openIs(t, r, 0)
	_, list, e := r.GetAll(slices.Repeat([]string{"abc"}, 64)...)
	is(t, "GetAll", e, api.OK)
	is(t, "messages", len(list), 64)
	is(t, "the first of them", list[0].Id, 66)
	openIs(t, r, 64)
}

// R4: the list of keys, and what lies behind it, is left as it was; and it is not kept: its holder may write over it.
func TestGetAllLeavesItsKeys(t *testing.T) {
	for _, keys := range [][]string{{}, {"abc"}, {"abc", "plum", "abc"}, {"z", "y", "x", "abc"}, {"abc", ""}, {"", "abc"}, slices.Repeat([]string{"k"}, 65)} {
		whole := append(slices.Clone(keys), "behind", "it")
		want := slices.Clone(whole)
		r := made(t, east())
		_, list, _ := r.GetAll(whole[:len(keys)]...)
		if !slices.Equal(whole, want) {
			t.Errorf("GetAll(%q) left %q", keys, whole)
		}
		sent := slices.Clone(list)
		stays(t, r, func() { scribble(whole, "written over") })
		if !slices.Equal(list, sent) {
			t.Errorf("the messages are %v now", list)
		}
		for i, m := range sent {
			takeIs(t, r, got(m.To, i+1, keys[i], api.OK, 7, "v"), nil, ends(found(i+1, keys[i], m.To, 7, "v")))
		}
	}
}
