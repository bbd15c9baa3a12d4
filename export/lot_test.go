package export

import (
	"testing"

	"granary/api"
)

// P21.2 to P21.5, P21.8: calls drawn by lot are held against the plain reading.

// both is an exporter and its plain reading.
type both struct {
	x *Export
	r *reading
}

// dealt is a cluster whose partitions are dealt out by lot; some nodes may get none. Its nodes are in zones by lot.
func dealt(lot *dice) api.Cluster {
	n := 1 + lot.roll(5)
	parts, owned := make([][]int, n), 0
	for part := range 1 + lot.roll(8) {
		node := lot.roll(n)
		if len(parts[node]) == 0 {
			owned++
		}
		parts[node] = append(parts[node], part)
	}
	c := cluster(1+lot.roll(owned), 1+lot.roll(4), parts...)
	c.Home = lot.roll(3)
	for i := range c.Nodes {
		c.Nodes[i].Zone = lot.roll(3)
	}
	return c
}

func drawn(t *testing.T, lot *dice) both {
	t.Helper()
	c := dealt(lot)
	return both{made(t, c), readNew(c)}
}

// message is an answer to the question of now, mostly, and else one with a field or two of another value.
func (b both) message(lot *dice) api.Msg {
	if !b.r.open() {
		return run{b.r.begun, b.r.version}.no(0, 0, 0, oneOf(lot, api.OK, api.ErrEnd, api.ErrAbsent))
	}
	q := b.r.question()
	m := run{q.Id, q.Version}.give(q.To, q.Seq, q.Prev, at(q.Seq, lot.roll(5)))
	switch lot.roll(8) {
	case 0:
		m.Code = oneOf(lot, codes...)
	case 1, 2:
		m.Code = api.ErrEnd
	case 3:
		m.Key, m.Value = "", ""
	}
	for range lot.roll(8) / 6 {
		b.spoil(lot, &m)
	}
	return m
}

func (b both) spoil(lot *dice, m *api.Msg) {
	beside := oneOf(lot, -1, 0, 1, 2, 3, b.r.begun-1, b.r.begun+1, m.Prev-1, m.Prev+1, len(b.r.rows), 67, mostInt)
	switch lot.roll(7) {
	case 0:
		m.Kind = 1 + lot.roll(16)
	case 1:
		m.From = beside
	case 2:
		m.Id = beside
	case 3:
		m.Seq = beside
	case 4:
		m.Version = beside
	case 5:
		m.Prev = beside
	case 6:
		m.To, m.Epoch = beside, beside
	}
}

func (b both) call(t *testing.T, lot *dice) {
	t.Helper()
	switch lot.roll(12) {
	case 0:
		version := oneOf(lot, 1, 7, 8, 999999, 0, 1000000)
		want, f := b.r.begin(version)
		list, e := b.x.Begin(version)
		is(t, "Begin", e, f)
		sent(t, "Begin", list, api.OK, want)
	case 1, 2, 3:
		tickIs(t, b.x, b.r.tick()...)
	default:
		m := b.message(lot)
		takeIs(t, b.x, m, b.r.take(m)...)
	}
	b.agree(t)
}

// agree holds that the two tell the same of where they are.
func (b both) agree(t *testing.T) {
	t.Helper()
	is(t, "Busy", b.x.Busy(), b.r.open())
	if b.r.report == nil {
		noReport(t, b.x, api.ErrIdle)
		return
	}
	toldIs(t, b.x, run{b.r.report.Job, b.r.report.Version}, b.r.report.Pairs, b.r.report.Missing...)
}

func TestExportersByLot(t *testing.T) {
	lot, events := dice(2121), map[string]int{}
	for i := range 1500 {
		b := drawn(t, &lot)
		for range 150 {
			ended := b.r.ended
			b.call(t, &lot)
			if b.r.ended > ended {
				b.count(events)
			}
		}
		if t.Failed() {
			t.Fatalf("exporter %d: %+v", i, b.r)
		}
	}
	for _, what := range []string{"none is missing", "some are missing", "all are missing", "pairs of several partitions", "an owner was left, and the partition isn't missing", "a later export"} {
		if events[what] < 100 {
			t.Errorf("%s: %d times", what, events[what])
		}
	}
}

// count tells what kind of export has just ended.
func (b both) count(events map[string]int) {
	switch len(b.r.missing) {
	case 0:
		events["none is missing"]++
	case len(b.r.rows):
		events["all are missing"]++
	default:
		events["some are missing"]++
	}
	if n := len(b.r.told); n > 0 && b.r.told[0].part != b.r.told[n-1].part {
		events["pairs of several partitions"]++
	}
	if len(b.r.left) > len(b.r.missing)*len(b.r.rows[0]) {
		events["an owner was left, and the partition isn't missing"]++
	}
	if b.r.begun > 1 {
		events["a later export"]++
	}
}

// Two in turns, and each as if it were alone.
func TestTwoByLot(t *testing.T) {
	lot := dice(12)
	for range 100 {
		two := [2]both{drawn(t, &lot), drawn(t, &lot)}
		for range 150 {
			i := lot.roll(2)
			stays(t, two[1-i].x, func() { two[i].call(t, &lot) })
		}
		if t.Failed() {
			t.FailNow()
		}
	}
}
