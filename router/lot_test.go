package router

import (
	"slices"
	"strconv"
	"strings"
	"testing"

	"granary/api"
)

// P17.1 to P17.8: calls drawn by lot are held against the plain reading, so each answer hangs on the calls ahead of it alone.

// pair is a router and its plain reading.
type pair struct {
	r    *Router
	read *reading
	c    api.Cluster
}

// someCluster draws one: some nodes without partitions among them, zones and home of a few numbers.
func someCluster(lot *dice) api.Cluster {
	c := east()
	nodes := oneOf(lot, 1, 2, 3, 4, 6, 16)
	c.Chunks, c.GetWait, c.Strikes, c.Ban = 1, oneOf(lot, 1, 2, 3, 5), oneOf(lot, 1, 1, 2, 3), oneOf(lot, 1, 2, 5, 30)
	c.Home = lot.roll(3)
	c.Nodes = make([]api.NodeDef, nodes)
	for i := range c.Nodes {
		c.Nodes[i].Zone = lot.roll(4)
	}
	first := lot.roll(nodes)
	for part := range 1 + lot.roll(20) {
		node := &c.Nodes[first]
		if part > 0 {
			node = &c.Nodes[lot.roll(nodes)]
		}
		node.Parts = append(node.Parts, part)
	}
	keeping := 0
	for _, node := range c.Nodes {
		if len(node.Parts) > 0 {
			keeping++
		}
	}
	c.Replicas = 1 + lot.roll(keeping)
	return c
}

func both(t *testing.T, lot *dice) pair {
	t.Helper()
	c := someCluster(lot)
	read, e := readNew(c)
	if e != api.OK {
		t.Fatalf("the cluster %+v: %d", c, e)
	}
	return pair{made(t, c), read, c}
}

func someKey(lot *dice) string {
	if lot.roll(40) == 0 {
		return oneOf(lot, "", strings.Repeat("k", 256), strings.Repeat("k", 255), "\x00", "\xff\xff")
	}
	return "k" + strconv.Itoa(lot.roll(30))
}

// drawn is a message: an answer of an owner that some get has asked, mostly, and else one with a field or two of another value.
func (p pair) drawn(lot *dice) api.Msg {
	n := len(p.c.Nodes)
	m := got(lot.roll(n), 1, someKey(lot), oneOf(lot, api.OK, api.ErrNoKey, api.ErrEmpty, api.ErrEmpty, api.ErrForeign, 143, 145, -1), lot.roll(99), "v"+strconv.Itoa(lot.roll(99)))
	if len(p.read.gets) > 0 {
		back := min(len(p.read.gets), 1+lot.roll(12))
		m.Id = len(p.read.gets) - lot.roll(back)
		g := p.read.gets[m.Id-1]
		m.Key, m.From = g.key, oneOf(lot, g.asked...)
		if lot.roll(2) == 0 {
			m.From = g.asked[len(g.asked)-1]
		}
	}
	if lot.roll(8) == 0 {
		m = pong(lot.roll(n), lot.roll(50))
	}
	for range lot.roll(9) / 7 {
		spoilt(lot, &m, n)
	}
	return m
}

func spoilt(lot *dice, m *api.Msg, n int) {
	beside := oneOf(lot, leastInt, -1, 0, 1, n-1, n, n+1, 64, 65, m.Id-1, m.Id+1, mostInt)
	switch lot.roll(8) {
	case 0:
		m.Kind = oneOf(lot, 0, 1, 2, 10, 11, 12, 13, beside)
	case 1:
		m.From = beside
	case 2:
		m.To = beside
	case 3:
		m.Id = beside
	case 4:
		m.Version = beside
	case 5:
		m.Code = api.Errno(beside)
	case 6:
		m.Key = someKey(lot)
	case 7:
		m.Epoch, m.Seq, m.Prev = beside, beside, beside
	}
}

// call makes a call of both, and tells the outcomes that came of it. The busier, the more gets are opened.
func (p pair) call(t *testing.T, lot *dice, busy int) []api.Outcome {
	t.Helper()
	switch x := lot.roll(20); {
	case x < busy:
		key := someKey(lot)
		n, list, e := p.read.get(key)
		if e != api.OK {
			stays(t, p.r, func() { getFails(t, p.r, key, e) })
		} else {
			getIs(t, p.r, key, n, list[0].To)
		}
	case x == 8:
		var keys []string
		for range oneOf(lot, 0, 1, 2, 3, 5, 30) {
			keys = append(keys, someKey(lot))
		}
		n, list, e := p.read.get(keys...)
		if e != api.OK {
			stays(t, p.r, func() { getAllFails(t, p.r, keys, e) })
		} else {
			getAllIs(t, p.r, keys, n, list...)
		}
	case x < 14:
		m := p.drawn(lot)
		sent, done, e := p.read.take(m)
		if e != api.OK {
			stays(t, p.r, func() { takeFails(t, p.r, m, e) })
		} else {
			takeIs(t, p.r, m, sent, done)
		}
		return done
	default:
		sent, done := p.read.tick()
		tickIs(t, p.r, sent, done)
		return done
	}
	return nil
}

func TestRoutersByLot(t *testing.T) {
	lot := dice(17)
	codes := map[api.Errno]int{}
	full := 0
	for i := range 3000 {
		p := both(t, &lot)
		busy := oneOf(&lot, 1, 3, 8)
		for range 200 {
			for _, o := range p.call(t, &lot, busy) {
				codes[o.Code]++
			}
			openIs(t, p.r, p.read.open())
			if p.r.Open() == api.MaxOpen {
				full++
			}
		}
		if t.Failed() {
			t.Fatalf("the router %d, of %+v", i, p.c)
		}
	}
	for _, code := range []api.Errno{api.OK, api.ErrNoKey, api.ErrNoAnswer} {
		if codes[code] < 1000 {
			t.Errorf("outcomes with the code %d: %d", code, codes[code])
		}
	}
	if full < 100 {
		t.Errorf("with all gets open: %d calls", full)
	}
}

// Two in turns, and each as if it were alone.
func TestTwoByLot(t *testing.T) {
	lot := dice(71)
	for range 200 {
		two := [2]pair{both(t, &lot), both(t, &lot)}
		for range 200 {
			i := lot.roll(2)
			stays(t, two[1-i].r, func() { two[i].call(t, &lot, 5) })
		}
		if t.Failed() {
			t.FailNow()
		}
	}
}

// Two that are asked the same answer the same, whatever the order in which their maps are gone through.
func TestSameCallsSameAnswers(t *testing.T) {
	lot := dice(710)
	for range 200 {
		p := both(t, &lot)
		twin := made(t, p.c)
		for range 150 {
			switch lot.roll(4) {
			case 0:
				key := someKey(&lot)
				p.read.get(key)
				n, list, e := p.r.Get(key)
				o, other, f := twin.Get(key)
				if n != o || e != f || !slices.Equal(list, other) {
					t.Fatalf("Get = %d, %v, %d and %d, %v, %d", n, list, e, o, other, f)
				}
			case 1:
				m := p.drawn(&lot)
				p.read.take(m)
				list, over, e := p.r.Take(m)
				other, done, f := twin.Take(m)
				if e != f || !slices.Equal(list, other) || !slices.Equal(over, done) {
					t.Fatalf("Take = %v, %v, %d and %v, %v, %d", list, over, e, other, done, f)
				}
			default:
				p.read.tick()
				list, over, _ := p.r.Tick()
				other, done, _ := twin.Tick()
				if !slices.Equal(list, other) || !slices.Equal(over, done) {
					t.Fatalf("Tick = %v, %v and %v, %v", list, over, other, done)
				}
			}
			is(t, "what it knows", kept(p.r), kept(twin))
		}
	}
}
