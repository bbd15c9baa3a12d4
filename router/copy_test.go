package router

import (
	"fmt"
	"slices"
	"strings"
	"testing"

	"granary/api"
)

// P17.8: whose memory is whose; hard arguments.

// junk is a message that nobody sends, junkEnd an outcome that nobody tells.
var (
	junk    = api.Msg{Kind: -7, From: -7, To: -7, Id: -7, Epoch: -7, Seq: -7, Version: -7, Prev: -7, Code: -7, Key: "junk", Value: "junk"}
	junkEnd = api.Outcome{Ticket: -7, Key: "junk", Code: -7, Node: -7, Version: -7, Value: "junk"}
)

// life is a whole run of a router of E: all that it answers, as text. What is done to the lists is no matter of the run.
func life(t *testing.T, r *Router, spoil func(list []api.Msg, over []api.Outcome)) string {
	t.Helper()
	var text strings.Builder
	opened := func(n int, list []api.Msg, e api.Errno) {
		fmt.Fprintln(&text, n, list, e, r.Open())
		spoil(list, nil)
	}
	came := func(list []api.Msg, over []api.Outcome, e api.Errno) {
		fmt.Fprintln(&text, list, over, e, r.Open())
		spoil(list, over)
	}
	keys := []string{"abc", "plum", "oat", "rye", "a", "b", "c", "d", "\x00", "\xff"}
	lot := dice(17)
	for i := range 400 {
		key := keys[lot.roll(len(keys))]
		switch lot.roll(8) {
		case 0:
			opened(r.Get(key))
		case 1:
			opened(r.GetAll(keys[:lot.roll(4)]...))
		case 2, 3:
			came(r.Take(got(lot.roll(3), 1+lot.roll(i+1), key, oneOf(&lot, api.OK, api.ErrNoKey, api.ErrEmpty), i, "v")))
		case 4:
			came(r.Take(pong(lot.roll(4), 0)))
		default:
			came(r.Tick())
		}
	}
	return text.String()
}

// Whoever gets a list may write into it and append to it: nothing else is changed by that.
func TestListsAreNew(t *testing.T) {
	want := life(t, made(t, east()), func([]api.Msg, []api.Outcome) {})
	r := made(t, east())
	got := life(t, r, func(list []api.Msg, over []api.Outcome) {
		stays(t, r, func() { scribble(list, junk); scribble(over, junkEnd) })
	})
	is(t, "behind scribbling", got, want)
}

// Two answers have no memory in common: what was answered first is still so behind all that comes.
func TestListsAreNotShared(t *testing.T) {
	r := made(t, round(3, 3, 1, 1, 5))
	var lists, copies [][]api.Msg
	var overs, twins [][]api.Outcome
	hold := func(list []api.Msg, over []api.Outcome) {
		for i := range lists {
			if !slices.Equal(lists[i], copies[i]) || !slices.Equal(overs[i], twins[i]) {
				t.Fatalf("an answer that was held is %v, %v now", lists[i], overs[i])
			}
		}
		lists, overs = append(lists, list), append(overs, over)
		copies, twins = append(copies, slices.Clone(list)), append(twins, slices.Clone(over))
	}
	for range 20 {
		_, list, _ := r.GetAll("a", "b", "c")
		hold(list, nil)
		hold(list[:1:1], nil)
		_, list, _ = r.Get("d")
		hold(list, nil)
		list, over, _ := r.Tick()
		hold(list, over)
		list, over, _ = r.Take(got(1, r.last, "d", api.OK, 7, "v"))
		hold(list, over)
	}
	for i := range lists {
		scribble(lists[i][:len(lists[i]):len(lists[i])], junk)
		scribble(overs[i], junkEnd)
	}
	life(t, r, func([]api.Msg, []api.Outcome) {})
	for i := range lists {
		for _, m := range lists[i] {
			is(t, "a list that was written over", m, junk)
		}
	}
}

// The lists of one answer are two.
func TestListsOfOneAnswer(t *testing.T) {
	c := round(2, 1, 1, 1, 9)
	r, key := made(t, c), keyIn(t, c, 0)
	getIs(t, r, key, 1, 0)
	list, over, _ := r.Tick()
	if !slices.Equal(list, out(ping(0, 1))) || !slices.Equal(over, ends(unanswered(1, key))) {
		t.Fatalf("Tick = %v, %v", list, over)
	}
	scribble(list, junk)
	if !slices.Equal(over, ends(unanswered(1, key))) {
		t.Errorf("the outcomes are %v now", over)
	}
	scribble(over, junkEnd)
	is(t, "the message", list[0], junk)
}

// Hard numbers and texts in each place of each call, at several places of a router; each call ends, and none panics.
func TestHardArguments(t *testing.T) {
	numbers := []int{leastInt, leastInt + 1, -1 << 32, -65, -1, 0, 1, 2, 3, 11, 12, 64, 65, 66, 1 << 31, 1 << 32, mostInt - 1, mostInt}
	texts := []string{"", "a", "abc", "\x00", "\xff\xfe", strings.Repeat("k", 255), strings.Repeat("k", 256), strings.Repeat("\x80", 100000)}
	fields := []func(m *api.Msg, x int){
		func(m *api.Msg, x int) { m.Kind = x }, func(m *api.Msg, x int) { m.From = x }, func(m *api.Msg, x int) { m.To = x },
		func(m *api.Msg, x int) { m.Id = x }, func(m *api.Msg, x int) { m.Epoch = x }, func(m *api.Msg, x int) { m.Seq = x },
		func(m *api.Msg, x int) { m.Version = x }, func(m *api.Msg, x int) { m.Prev = x }, func(m *api.Msg, x int) { m.Code = api.Errno(x) },
	}
	for _, ticks := range []int{0, 1, 2, 3, 6} {
		for _, a := range numbers {
			r := made(t, east())
			for range ticks {
				r.GetAll("abc", "abc", "plum")
				r.Tick()
			}
			for _, b := range numbers {
				for i, change := range fields {
					m := got(0, 1+i, "abc", api.ErrEmpty, 7, "v")
					change(&m, a)
					fields[(i+1)%len(fields)](&m, b)
					r.Take(m)
				}
				r.Take(api.Msg{Kind: a, From: b, To: a, Id: b, Epoch: a, Seq: b, Version: a, Prev: b, Code: api.Errno(a), Key: "\xff\x00", Value: strings.Repeat("v", 9999)})
				r.Take(api.Msg{Kind: api.MsgGot, From: a, To: 65, Id: b, Key: "abc", Version: a})
				r.Take(api.Msg{Kind: api.MsgPong, From: a, To: 65, Id: b})
				r.Tick()
			}
			for _, text := range texts {
				r.Get(text)
				r.GetAll(texts...)
				r.GetAll(text, text)
				r.Take(got(0, a, text, api.OK, 7, text))
				r.Tick()
			}
			if n := r.Open(); n < 0 || n > 64 {
				t.Fatalf("Open = %d", n)
			}
		}
	}
	r := made(t, east())
	getAllFails(t, r, make([]string, 1<<20), api.ErrKey)
	getAllFails(t, r, slices.Repeat([]string{"k"}, 1<<20), api.ErrOpen)
	openIs(t, r, 0)
}

// What is in a message beside what the chapter goes by makes no difference.
func TestFieldsThatDoNotCount(t *testing.T) {
	for _, code := range []api.Errno{api.OK, api.ErrNoKey, api.ErrEmpty} {
		for _, n := range []int{leastInt, -1, 0, 1, 77, mostInt} {
			plain, r := made(t, east()), made(t, east())
			m := got(0, 1, "abc", code, 7, "v")
			want, wantEnds, _ := asking(t, plain).Take(m)
			m.Epoch, m.Seq, m.Prev = n, n, n
			takeIs(t, asking(t, r), m, want, wantEnds)
			p := pong(1, n)
			p.Epoch, p.Seq, p.Prev, p.Version, p.Code, p.Key, p.Value = n, n, n, n, api.Errno(n), "abc", "v"
			takeIs(t, r, p, nil, nil)
			is(t, "behind a MsgPong with all fields", kept(r), kept(plain))
		}
	}
}

// asking lets a router open a get of "abc", its first one.
func asking(t *testing.T, r *Router) *Router {
	t.Helper()
	getIs(t, r, "abc", 1, 0)
	return r
}
