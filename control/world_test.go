package control

import (
	"slices"
	"testing"

	"granary/api"
	"granary/frame"
)

// P15.8, P15.9, P15.10: a controller and its nodes, whose messages are lost, doubled, late and in any order by lot; nodes refuse, go down in the midst of an order, and come back; the controller is stopped, revived and resumed.

// affair is what the world knows of a job.
type affair struct {
	kind, version int
	fetched       map[int]int    // nodes whose Fetched with OK has come to the controller
	backs         bool           // a Back of it has gone out
	ahead         map[int]int    // by node: what was current ahead of the first order of the job that it carried out
	kept          map[int]int    // by node: the pointers that it had written when it first said that it swapped
	told          map[[2]int]int // by node: what it told a look
	counts        map[[2]int]int // by kind and node: messages since the job began, or was revived
	report        *api.Report
}

type world struct {
	t       *testing.T
	lot     *dice
	c       api.Cluster
	k       *Control
	keepers []*keeper
	down    []int // 1: the node is
	flight  []api.Msg
	number  int // of the last job
	jobs    map[int]*affair
	ticks   int // since the job began
	revived bool
	calm    bool // nothing is lost, and nobody refuses
	events  map[string]int
}

func newWorld(t *testing.T, lot *dice, events map[string]int) *world {
	t.Helper()
	w := &world{t: t, lot: lot, jobs: map[int]*affair{}, events: events}
	w.c = many(oneOf(lot, 1, 2, 3, 5), oneOf(lot, 1, 2, 3), oneOf(lot, 1, 2, 4), oneOf(lot, 1, 5, 12, 40))
	w.k = made(t, w.c)
	w.calm = lot.roll(4) == 0
	for range w.c.Nodes {
		w.keepers = append(w.keepers, newKeeper(lot.roll(2), 1))
		w.down = append(w.down, 0)
	}
	return w
}

// does is a call of the controller: what it sends goes out, and if a job has ended by it the report must be true.
func (w *world) does(list []api.Msg, e api.Errno) {
	w.t.Helper()
	is(w.t, "the call", e, api.OK)
	for _, m := range list {
		w.goesOut(m)
	}
	a := w.jobs[w.number]
	if a == nil || a.report != nil || w.k.Busy() {
		return
	}
	r, e := w.k.Report()
	is(w.t, "Report", e, api.OK)
	is(w.t, "Job", r.Job, w.number)
	is(w.t, "Kind", r.Kind, a.kind)
	is(w.t, "Version", r.Version, a.version)
	a.report = &r
	w.events[[]string{"", "succeeded", "restored", "incomplete"}[r.Outcome]]++
	w.isTrue(a, r)
}

// goesOut holds a message against P15.8 and P15.10, and lets it fly.
func (w *world) goesOut(m api.Msg) {
	w.t.Helper()
	text, e := frame.Encode(m)
	is(w.t, "the frame", e, api.OK)
	whole, e := frame.Decode(text)
	is(w.t, "the frame", whole, m)
	is(w.t, "Id", m.Id, w.number)
	is(w.t, "From", m.From, api.AddrControl)
	a := w.jobs[m.Id]
	a.counts[[2]int{m.Kind, m.To}]++
	n := a.counts[[2]int{m.Kind, m.To}]
	switch m.Kind {
	case api.MsgSwap:
		is(w.t, "a Swap behind a Back", a.backs, false)
		if a.kind == api.JobSwap {
			is(w.t, "nodes that fetched", len(a.fetched), len(w.c.Nodes))
		}
	case api.MsgBack:
		a.backs = true
	case api.MsgFetch:
		is(w.t, "a Fetch behind a Back", a.backs, false)
		if n > 1+w.ticks/w.c.Resend {
			w.t.Errorf("%d Fetches to node %d within %d ticks", n, m.To, w.ticks)
		}
	}
	if m.Kind != api.MsgFetch && n > w.c.Limit {
		w.t.Errorf("%d messages of kind %d to node %d", n, m.Kind, m.To)
	}
	w.flight = append(w.flight, m)
}

// isTrue holds that what a report says is so.
func (w *world) isTrue(a *affair, r api.Report) {
	w.t.Helper()
	is(w.t, "Holds", len(r.Holds), len(w.c.Nodes))
	for node, x := range w.keepers {
		if slices.Contains(r.Missing, node) {
			is(w.t, "Outcome with a node missing", r.Outcome, api.Incomplete)
			is(w.t, "Holds of a node that is missing", r.Holds[node], -1)
			continue
		}
		switch {
		case a.kind == api.JobLook:
			is(w.t, "it told that", a.told[[2]int{node, r.Holds[node]}], 1)
		case r.Outcome == api.Succeeded:
			is(w.t, "Holds", r.Holds[node], a.version)
			is(w.t, "Cur", x.Cur, a.version)
			is(w.t, "Epoch", x.Epoch, r.Job)
			is(w.t, "Seq", x.Seq, 1)
			is(w.t, "writes since it answered", x.writes, a.kept[node])
		default:
			is(w.t, "Holds", r.Holds[node], a.ahead[node])
			is(w.t, "the pointer", x.Pointer, api.Pointer{Cur: a.ahead[node], Prev: a.ahead[node], Epoch: r.Job, Seq: 2})
		}
	}
	if r.Outcome == api.Incomplete && len(r.Missing) == 0 {
		w.t.Error("Incomplete, and nobody is missing")
	}
}

// begins begins a job.
func (w *world) begins() {
	w.t.Helper()
	kind, version := oneOf(w.lot, 1, 1, 1, 2, 2, 3), 1+w.lot.roll(4)
	if kind == api.JobLook {
		version = 0
	}
	w.number++
	w.ticks, w.revived = 0, false
	w.jobs[w.number] = &affair{kind: kind, version: version, fetched: map[int]int{}, ahead: map[int]int{}, kept: map[int]int{}, told: map[[2]int]int{}, counts: map[[2]int]int{}}
	w.does(w.k.Begin(kind, version))
}

// ticksOn lets a tick go by; no job takes longer than it may.
func (w *world) ticksOn() {
	w.t.Helper()
	w.ticks++
	w.does(w.k.Tick())
	full := w.c.Resend * w.c.Limit
	bound := []int{0, w.c.Patience + 2*full, 2 * full, full}
	if a := w.jobs[w.number]; a != nil && !w.revived && w.k.Busy() && w.ticks >= bound[a.kind] {
		w.t.Errorf("a job of the kind %d goes on behind %d ticks", a.kind, w.ticks)
	}
}

// losesItsMemory revives the controller, or puts another one in its place.
func (w *world) losesItsMemory() {
	w.t.Helper()
	a := w.jobs[w.number]
	open := w.k.Busy()
	if open {
		w.revived = true
		a.counts = map[[2]int]int{}
		w.events["lost memory"]++
	}
	switch {
	case w.lot.roll(2) == 0 && open:
		w.does(w.k.Revive())
	case a == nil:
	case a.kind == api.JobLook: // nothing of a look is open for another controller
		if open {
			w.does(w.k.Stop())
		}
		k, list, e := Resume(w.c, w.number, 3, 0, false)
		w.k = k
		w.does(list, e)
	default:
		k, list, e := Resume(w.c, w.number, a.kind, a.version, open)
		w.k = k
		w.does(list, e)
	}
}

// arrives takes a message out of the flight, or leaves it there too: then it comes twice.
func (w *world) arrives() {
	w.t.Helper()
	if len(w.flight) == 0 {
		return
	}
	i := w.lot.roll(len(w.flight))
	m := w.flight[i]
	if w.lot.roll(5) > 0 {
		w.flight = slices.Delete(w.flight, i, i+1)
	}
	if !w.calm && w.lot.roll(8) == 0 {
		return // it is lost
	}
	if m.To != api.AddrControl {
		w.hears(m)
		return
	}
	if a := w.jobs[m.Id]; m.Kind == api.MsgFetched && m.Code == api.OK {
		a.fetched[m.From] = 1
	}
	if m.Id != w.number || !w.k.Busy() {
		w.events["late answer"]++
	}
	w.does(w.k.Take(m))
}

// hears lets a node do a message. One that goes down in the midst has done it or not, and says nothing.
func (w *world) hears(m api.Msg) {
	w.t.Helper()
	node := m.To
	if w.down[node] == 1 {
		return
	}
	x, falls, full := w.keepers[node], !w.calm && w.lot.roll(30) == 0, !w.calm && w.lot.roll(15) == 0
	before := *x
	r := api.Msg{From: node, To: m.From, Id: m.Id, Epoch: m.Epoch, Seq: m.Seq}
	switch m.Kind {
	case api.MsgFetch:
		r.Kind, r.Version, r.Code = api.MsgFetched, m.Version, w.fetches(x, m)
	case api.MsgSwap:
		r.Kind, r.Code = api.MsgSwapped, x.swap(m.Version, m.Epoch, m.Seq, full)
	case api.MsgBack:
		r.Kind, r.Code = api.MsgBacked, x.rollback(m.Epoch, m.Seq, full)
	case api.MsgAsk:
		r.Kind, r.Epoch, r.Seq = api.MsgTold, x.Epoch, x.Seq
	}
	if m.Kind != api.MsgFetch {
		r.Version, r.Prev = x.Cur, x.Prev
	}
	if falls {
		w.down[node] = 1
		if w.lot.roll(2) == 0 {
			x.Pointer, x.writes = before.Pointer, before.writes
		}
		w.noted(node, m, before, api.ErrDown)
		return
	}
	w.noted(node, m, before, r.Code)
	w.flight = append(w.flight, r)
}

// fetches answers a Fetch as chapter 14 says (P14.6), at once; what is old may go by it.
func (w *world) fetches(x *keeper, m api.Msg) api.Errno {
	if x.way(m.Epoch, 1) < 0 {
		return api.ErrStale
	}
	if x.have[m.Version] == 1 {
		return api.OK
	}
	for v := range 5 {
		if v != x.Cur && v != x.Prev && w.lot.roll(6) == 0 {
			delete(x.have, v)
		}
	}
	if !w.calm && w.lot.roll(12) == 0 {
		return oneOf(w.lot, api.ErrUnbuilt, api.ErrQuota, api.ErrLost)
	}
	x.have[m.Version] = 1
	return api.OK
}

// noted writes down what a message did to a node. What comes late of a job that has ended changes no node that answered it.
func (w *world) noted(node int, m api.Msg, before keeper, code api.Errno) {
	w.t.Helper()
	x, a := w.keepers[node], w.jobs[m.Id]
	wrote := x.writes != before.writes
	if r := a.report; r != nil && a.kind != api.JobLook && !slices.Contains(r.Missing, node) {
		w.events["late order"]++
		is(w.t, "the pointer behind a late order", x.Pointer, before.Pointer)
		is(w.t, "a late order is carried out", wrote, false)
	}
	switch {
	case m.Kind == api.MsgSwap && a.backs && code == api.ErrStale:
		w.events["late swap refused"]++
	case m.Kind == api.MsgSwap && a.backs && wrote:
		w.events["late swap ahead of the Back"]++
	case m.Kind == api.MsgAsk:
		a.told[[2]int{node, x.Cur}] = 1
	}
	if _, ok := a.ahead[node]; !ok && wrote {
		a.ahead[node] = before.Cur
	}
	if _, ok := a.kept[node]; !ok && m.Kind == api.MsgSwap && code == api.OK {
		a.kept[node] = x.writes
	}
}

func (w *world) step() {
	w.t.Helper()
	switch x := w.lot.roll(100); {
	case x < 70:
		w.arrives()
	case x < 88:
		w.ticksOn()
	case x < 90:
		w.down[w.lot.roll(len(w.down))] = 0
	case x < 91 && !w.calm:
		w.down[w.lot.roll(len(w.down))] = 1
	case x < 92 && len(w.flight) > 0:
		w.flight = append(w.flight, oneOf(w.lot, w.flight...))
	case x < 93 && w.k.Busy() && w.lot.roll(4) == 0:
		w.does(w.k.Stop())
	case x < 94 && w.lot.roll(3) == 0:
		w.losesItsMemory()
	case !w.k.Busy():
		w.begins()
	}
	if len(w.flight) > 60 { // the oldest are lost
		w.flight = w.flight[20:]
	}
}

func TestNoTwoOutcomes(t *testing.T) {
	lot, events := dice(1509), map[string]int{}
	for round := range 1500 {
		w := newWorld(t, &lot, events)
		for range 400 {
			w.step()
		}
		if t.Failed() {
			t.Fatalf("world %d: job %d, %+v", round, w.number, w.jobs[w.number])
		}
	}
	for _, what := range []string{"succeeded", "restored", "incomplete", "late answer", "late order", "late swap refused", "late swap ahead of the Back", "lost memory"} {
		if events[what] < 200 {
			t.Errorf("%s: %d times", what, events[what])
		}
	}
	t.Log(events)
}
