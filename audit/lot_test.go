package audit

import (
	"fmt"
	"testing"

	"granary/api"
)

// P19.2 to P19.5, R5: calls drawn by lot are held against the plain reading.

// both is an auditor and its plain reading.
type both struct {
	a *Audit
	r *reading
}

// dealt is a cluster whose partitions are dealt out by lot; some nodes may get none.
func dealt(lot *dice) api.Cluster {
	n := 1 + lot.roll(5)
	parts, owned := make([][]int, n), 0
	for part := range 1 + lot.roll(8) {
		node := lot.roll(n)
		if len(parts[node]) == 0 {
			owned++
		}
		parts[node] = append(parts[node], part)
	}
	return cluster(1+lot.roll(owned), 1+lot.roll(3), 1+lot.roll(3), parts...)
}

func drawn(t *testing.T, lot *dice) both {
	t.Helper()
	c := dealt(lot)
	return both{made(t, c), readNew(c)}
}

// message is an answer that counts, mostly, and else one with a field or two of another value.
func (b both) message(lot *dice) api.Msg {
	node := lot.roll(len(b.r.lists))
	part, _ := b.r.wanted(node)
	m := answer(b.r.number, b.r.version, node, part, 4, sumS)
	switch lot.roll(18) {
	case 0:
		m.Value = sumT
	case 1:
		m.Prev = 5
	case 2:
		m.Code = oneOf(lot, codes...)
	case 3:
		m.Value = oneOf(lot, "", sumS[:15], sumS+"x")
	}
	for range lot.roll(8) / 6 {
		b.spoil(lot, &m)
	}
	return m
}

func (b both) spoil(lot *dice, m *api.Msg) {
	beside := oneOf(lot, -1, 0, 1, 2, 3, b.r.number-1, b.r.number+1, len(b.r.lists), 66, mostInt)
	switch lot.roll(7) {
	case 0:
		m.Kind = 1 + lot.roll(16)
	case 1:
		m.From = beside
	case 2:
		m.Id = beside
	case 3:
		m.Seq = beside
	case 4:
		m.Version = beside
	case 5:
		m.To, m.Epoch = beside, beside
	case 6:
		m.Key = "k"
	}
}

func (b both) call(t *testing.T, lot *dice) {
	t.Helper()
	switch lot.roll(12) {
	case 0:
		version := oneOf(lot, 1, 7, 8, 999999, 0, 1000000)
		want, f := b.r.begin(version)
		list, e := b.a.Begin(version)
		is(t, "Begin", e, f)
		sent(t, "Begin", list, api.OK, want)
	case 1, 2, 3:
		tickIs(t, b.a, b.r.tick()...)
	default:
		m := b.message(lot)
		takeIs(t, b.a, m, b.r.take(m)...)
	}
	b.agree(t)
}

// agree holds that the two tell the same of where they are.
func (b both) agree(t *testing.T) {
	t.Helper()
	is(t, "Busy", b.a.Busy(), b.r.open)
	if b.r.report == nil {
		noReport(t, b.a, api.ErrIdle)
		return
	}
	x := b.r.report
	toldIs(t, b.a, x.Job, x.Version, x.Outcome, x.Differ, x.Missing)
}

func TestAuditorsByLot(t *testing.T) {
	lot, events := dice(1919), map[string]int{}
	for i := range 1500 {
		b := drawn(t, &lot)
		for range 150 {
			open := b.r.open
			b.call(t, &lot)
			if open && !b.r.open {
				x := b.r.report
				events[fmt.Sprint("outcome ", x.Outcome)]++
				if len(x.Differ) > 1 {
					events["several differ"]++
				}
				if len(x.Differ) > 0 && len(x.Missing) > 0 {
					events["unlike, and some are missing"]++
				}
				if len(x.Missing) > 1 {
					events["several are missing"]++
				}
			}
		}
		if t.Failed() {
			t.Fatalf("auditor %d: %+v", i, b.r)
		}
	}
	for _, what := range []string{"outcome 1", "outcome 2", "outcome 3", "several differ", "several are missing", "unlike, and some are missing"} {
		if events[what] < 100 {
			t.Errorf("%s: %d times", what, events[what])
		}
	}
}

// Two in turns, and each as if it were alone.
func TestTwoByLot(t *testing.T) {
	lot := dice(91)
	for range 100 {
		two := [2]both{drawn(t, &lot), drawn(t, &lot)}
		for range 150 {
			i := lot.roll(2)
			stays(t, two[1-i].a, func() { two[i].call(t, &lot) })
		}
		if t.Failed() {
			t.FailNow()
		}
	}
}

// The same calls give the same answers, each time: nothing hangs on the order in which a map is gone through.
func TestSameCallsSameAnswers(t *testing.T) {
	want := ""
	for i := range 30 {
		a := made(t, round(8, 4, 1, 1))
		lists := readNew(round(8, 4, 1, 1)).lists
		a.Begin(7)
		for node, list := range lists {
			for _, part := range list {
				a.Take(answer(1, 7, node, part, part/3*node, sumS))
			}
		}
		got := fmt.Sprint(a.Report())
		if i > 0 {
			is(t, "the report", got, want)
		}
		want = got
		reportIs(t, a, 1, 7, api.AuditUnlike, []int{3, 4, 5, 6, 7}, nil)
	}
}
