package router

import (
	"slices"
	"strconv"
	"testing"

	"granary/api"
	"granary/ring"
)

// P17.7: every get ends.

// Nobody answers: just behind Replicas times GetWait ticks it ends, with one replica and with the most.
func TestEndsInTime(t *testing.T) {
	for replicas := 1; replicas <= 16; replicas++ {
		for _, w := range []int{1, 2, 5} {
			for _, strikes := range []int{1, 64} {
				c := round(16, replicas, w, strikes, 1024)
				r, key := made(t, c), keyIn(t, c, 13)
				getIs(t, r, key, 1, 13)
				for i := 1; i < replicas*w; i++ {
					if _, over, _ := r.Tick(); len(over) != 0 {
						t.Fatalf("%d replicas, GetWait %d: it ended in the tick %d: %v", replicas, w, i, over)
					}
				}
				openIs(t, r, 1)
				_, over, _ := r.Tick()
				if !slices.Equal(over, ends(unanswered(1, key))) {
					t.Errorf("%d replicas, GetWait %d: %v", replicas, w, over)
				}
				openIs(t, r, 0)
			}
		}
	}
}

// Owners that say no in between let it end earlier, never later.
func TestEndsEarlier(t *testing.T) {
	c := round(3, 3, 4, 64, 1)
	key := keyIn(t, c, 0)
	for mask := range 8 {
		r, ticks := made(t, c), 0
		getIs(t, r, key, 1, 0)
		var over []api.Outcome
		for i := range 3 {
			if mask>>i&1 == 1 {
				_, over, _ = r.Take(got(i, 1, key, api.ErrEmpty, 0, ""))
				continue
			}
			for range 4 {
				_, over, _ = r.Tick()
				ticks++
			}
		}
		if !slices.Equal(over, ends(unanswered(1, key))) || ticks > 12 {
			t.Errorf("%03b: %v behind %d ticks", mask, over, ticks)
		}
	}
}

// witness holds what a router answers against what P17.7 says, get by get.
type witness struct {
	c    api.Cluster
	time int
	gets map[int]*seen
}

type seen struct {
	key    string
	opened int
	asked  []int
	ended  bool
}

func (w *witness) opened(keys []string, first int) {
	for i, key := range keys {
		w.gets[first+i] = &seen{key: key, opened: w.time}
	}
}

// sent holds that each owner of a key, and nobody else, is asked at most once, while the get is open.
func (w *witness) sent(t *testing.T, list []api.Msg) {
	t.Helper()
	for _, m := range list {
		if m.Kind != api.MsgGet {
			continue
		}
		s := w.gets[m.Id]
		if s == nil || s.ended || s.key != m.Key || slices.Contains(s.asked, m.To) {
			t.Fatalf("%+v, of %+v", m, s)
		}
		place, _ := ring.Locate(w.c, m.Key)
		if owners, _ := ring.Owners(w.c, place.Part); !slices.Contains(owners, m.To) {
			t.Fatalf("%+v: the owners are %v", m, owners)
		}
		s.asked = append(s.asked, m.To)
	}
}

// over holds that each get ends once, and that good news is that of the message which came in this very call.
func (w *witness) over(t *testing.T, list []api.Outcome, came api.Msg) {
	t.Helper()
	for _, o := range list {
		s := w.gets[o.Ticket]
		if s == nil || s.ended || s.key != o.Key {
			t.Fatalf("%+v, of %+v", o, s)
		}
		s.ended = true
		if o.Code == api.ErrNoAnswer {
			is(t, "asked", len(s.asked), w.c.Replicas)
			is(t, "the outcome", o, unanswered(o.Ticket, o.Key))
			continue
		}
		want := api.Outcome{Ticket: came.Id, Key: came.Key, Code: came.Code, Node: came.From, Version: came.Version, Value: came.Value}
		if came.Code == api.ErrNoKey {
			want.Value = ""
		}
		is(t, "the outcome", o, want)
		is(t, "its kind", came.Kind, api.MsgGot)
		is(t, "a good one", o.Code == api.OK || o.Code == api.ErrNoKey, true)
		is(t, "asked", slices.Contains(s.asked, o.Node), true)
	}
}

// inTime holds that what must have ended has, and that Open tells how many have not.
func (w *witness) inTime(t *testing.T, r *Router) {
	t.Helper()
	open := 0
	for ticket, s := range w.gets {
		if s.ended {
			continue
		}
		open++
		if w.time-s.opened >= w.c.Replicas*w.c.GetWait {
			t.Fatalf("the get %d is open since %d, at %d", ticket, s.opened, w.time)
		}
	}
	openIs(t, r, open)
}

func TestEveryGetEnds(t *testing.T) {
	lot := dice(177)
	for range 400 {
		n := 1 + lot.roll(5)
		c := round(n, 1+lot.roll(n), 1+lot.roll(4), 1+lot.roll(3), 1+lot.roll(9))
		c.Home = lot.roll(3)
		r, w := made(t, c), &witness{c: c, gets: map[int]*seen{}}
		for range 150 {
			switch lot.roll(6) {
			case 0:
				var keys []string
				for range 1 + lot.roll(4) {
					keys = append(keys, "k"+strconv.Itoa(lot.roll(9)))
				}
				first, list, e := r.GetAll(keys...)
				if e == api.OK {
					w.opened(keys, first)
				}
				w.sent(t, list)
			case 1, 2, 3:
				ticket := 1 + lot.roll(r.last+1)
				m := got(lot.roll(n), ticket, "k0", oneOf(&lot, api.OK, api.ErrNoKey, api.ErrEmpty, api.ErrEmpty, api.ErrForeign), lot.roll(9), "v")
				if s := w.gets[ticket]; s != nil {
					m.Key = s.key
				}
				list, over, e := r.Take(m)
				is(t, "Take", e, api.OK)
				w.sent(t, list)
				w.over(t, over, m)
			default:
				w.time++
				list, over, e := r.Tick()
				is(t, "Tick", e, api.OK)
				w.sent(t, list)
				w.over(t, over, api.Msg{})
			}
			w.inTime(t, r)
		}
		if t.Failed() {
			t.FailNow()
		}
	}
}
