package control

import (
	"slices"
	"testing"

	"granary/api"
)

// P15.1 to P15.11: calls drawn by lot are held against the plain reading.

// pair is a controller and its plain reading.
type pair struct {
	k *Control
	r *reading
}

// both are a controller of some cluster and its reading, new or resumed.
func both(t *testing.T, lot *dice) pair {
	t.Helper()
	c := many(oneOf(lot, 1, 2, 3, 5), oneOf(lot, 1, 2, 3), oneOf(lot, 1, 2, 3), oneOf(lot, 1, 2, 3, 6, 7, 20))
	r := readNew(c)
	if lot.roll(2) == 0 {
		return pair{made(t, c), r}
	}
	job, kind, version, open := oneOf(lot, 1, 2, 5, most-3, most-1, most), oneOf(lot, 1, 2), oneOf(lot, 1, 7, last), lot.roll(2) == 0
	k, list, e := Resume(c, job, kind, version, open)
	sent(t, "Resume", list, e, r.resume(job, kind, version, open))
	return pair{k, r}
}

// drawn is a message: an answer that would count, mostly, and else one with a field or two of another value.
func (p pair) drawn(lot *dice) api.Msg {
	phase := p.r.phase
	if phase == "" || lot.roll(6) == 0 {
		phase = oneOf(lot, fetch, swap, back, look)
	}
	version := p.r.version
	if phase == back || phase == look {
		version = oneOf(lot, -1, 0, 1, 7, last)
	}
	m := reply(phase, lot.roll(p.r.n), p.r.number, version, api.OK)
	if lot.roll(12) == 0 {
		m.Code = oneOf(lot, codes...)
	}
	for range lot.roll(8) / 6 {
		p.spoil(lot, &m)
	}
	return m
}

func (p pair) spoil(lot *dice, m *api.Msg) {
	beside := oneOf(lot, -1, 0, 1, 2, p.r.number-1, p.r.number+1, p.r.n, 64, mostInt)
	switch lot.roll(9) {
	case 0:
		m.Kind = oneOf(lot, 0, 3, 4, 5, 6, 7, 8, 9, 10, 11)
	case 1:
		m.From = beside
	case 2:
		m.Id = beside
	case 3:
		m.Epoch = beside
	case 4:
		m.Seq = beside
	case 5:
		m.Version = beside
	case 6:
		m.Prev = beside
	case 7:
		m.To = beside
	case 8:
		m.Key, m.Value = "k", "v"
	}
}

func (p pair) call(t *testing.T, lot *dice) {
	t.Helper()
	switch lot.roll(20) {
	case 0, 1:
		kind := oneOf(lot, 1, 1, 2, 2, 3, 3, 0, 4)
		version := oneOf(lot, 1, 7, last, 0, last+1)
		if kind == 3 && lot.roll(4) > 0 {
			version = 0
		}
		want, f := p.r.begin(kind, version)
		list, e := p.k.Begin(kind, version)
		is(t, "Begin", e, f)
		sent(t, "Begin", list, api.OK, want)
	case 2, 3, 4, 5, 6, 7:
		tickIs(t, p.k, p.r.tick())
	case 8:
		if lot.roll(4) > 0 {
			return
		}
		want, f := p.r.stop()
		list, e := p.k.Stop()
		is(t, "Stop", e, f)
		sent(t, "Stop", list, api.OK, want)
	case 9:
		if lot.roll(4) > 0 {
			return
		}
		want, f := p.r.revive()
		list, e := p.k.Revive()
		is(t, "Revive", e, f)
		sent(t, "Revive", list, api.OK, want)
	default:
		m := p.drawn(lot)
		takeIs(t, p.k, m, p.r.take(m))
	}
}

// agree holds that the two tell the same of where they are.
func (p pair) agree(t *testing.T) {
	t.Helper()
	is(t, "Busy", p.k.Busy(), p.r.phase != "")
	if p.r.report == nil {
		noReport(t, p.k, api.ErrIdle)
		return
	}
	x := p.r.report
	toldIs(t, p.k, x.Job, x.Kind, x.Version, x.Outcome, x.Holds, x.Missing...)
}

func TestControllersByLot(t *testing.T) {
	lot := dice(15)
	outcomes := map[[2]int]int{}
	for round := range 2000 {
		p := both(t, &lot)
		for range 150 {
			job := p.r.number
			p.call(t, &lot)
			p.agree(t)
			if p.r.report != nil && p.r.report.Job == job && p.r.phase == "" {
				outcomes[[2]int{p.r.report.Kind, p.r.report.Outcome}]++
			}
		}
		if t.Failed() {
			t.Fatalf("round %d: %+v", round, p.r)
		}
	}
	for _, kind := range []int{1, 2, 3} {
		for _, outcome := range []int{1, 2, 3} {
			if kind == 3 && outcome == 2 {
				continue // nothing is taken back
			}
			if outcomes[[2]int{kind, outcome}] < 100 {
				t.Errorf("jobs of the kind %d with the outcome %d: %d", kind, outcome, outcomes[[2]int{kind, outcome}])
			}
		}
	}
}

// Two that are asked the same answer the same, whatever a third one is asked in between.
func TestSameCallsSameAnswers(t *testing.T) {
	lot, other := dice(51), dice(52)
	one, two := pair{made(t, east()), readNew(east())}, made(t, east())
	third := pair{made(t, east()), readNew(east())}
	for range 3000 {
		kind, version, m := oneOf(&lot, 1, 2, 3), oneOf(&lot, 0, 7), one.drawn(&lot)
		var list, twin []api.Msg
		var e, f api.Errno
		switch lot.roll(12) {
		case 0:
			one.r.begin(kind, version)
			list, e = one.k.Begin(kind, version)
			third.call(t, &other)
			twin, f = two.Begin(kind, version)
		case 1, 2, 3:
			one.r.tick()
			list, e = one.k.Tick()
			third.call(t, &other)
			twin, f = two.Tick()
		default:
			one.r.take(m)
			list, e = one.k.Take(m)
			third.call(t, &other)
			twin, f = two.Take(m)
		}
		if !slices.Equal(list, twin) || e != f || one.k.Busy() != two.Busy() {
			t.Fatalf("%+v, %d and %+v, %d", list, e, twin, f)
		}
		r, e := one.k.Report()
		x, f := two.Report()
		same(t, "Report", x, r)
		is(t, "Report", f, e)
	}
}
