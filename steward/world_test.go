package steward

import (
	"slices"
	"testing"

	"granary/api"
	"granary/disk"
	"granary/frame"
)

// P20.8: a steward and its nodes; letters are lost, doubled, late and in any order by lot; nodes refuse; the steward's disk loses its power at any act, with anything surviving, at Boots too.

// keeper is a node that carries out orders as chapter 12 says (P12.6), and has every version.
type keeper struct{ api.Pointer }

// way is below 0 for an order below the fence, 0 for the fence, above 0 for one above it.
func (x *keeper) way(epoch, seq int) int {
	if epoch != x.Epoch {
		return epoch - x.Epoch
	}
	return seq - x.Seq
}

func (x *keeper) swap(version, epoch, seq int) api.Errno {
	way := x.way(epoch, seq)
	switch {
	case way == 0 && version == x.Cur:
		return api.OK
	case way <= 0:
		return api.ErrStale
	}
	x.Pointer = api.Pointer{Cur: version, Prev: x.Cur, Epoch: epoch, Seq: seq}
	return api.OK
}

func (x *keeper) rollback(epoch, seq int) api.Errno {
	way := x.way(epoch, seq)
	switch {
	case way == 0:
		return api.OK
	case way < 0:
		return api.ErrStale
	}
	to := x.Cur
	if x.Epoch == epoch {
		to = x.Prev
	}
	x.Pointer = api.Pointer{Cur: to, Prev: to, Epoch: epoch, Seq: seq}
	return api.OK
}

// affair is what the world knows of a job.
type affair struct {
	kind, version int
	backs         bool        // a Back of it has gone out
	over          bool        // its end was told, or was written: no message of it goes out any more
	outcome       int         // that was told; 0: none
	ahead         map[int]int // by node: what was current ahead of the first order of the job that it carried out
}

type world struct {
	t       *testing.T
	lot     *dice
	b       *bench
	keepers []*keeper
	flight  []api.Msg
	jobs    map[int]*affair // of which a message went out, or may have been begun
	number  int             // of the last of them
	ghost   *affair         // of a Begin that was broken off: it may have been written
	events  map[string]int
}

func newWorld(t *testing.T, lot *dice, events map[string]int) *world {
	t.Helper()
	c := many(oneOf(lot, 1, 2, 3, 5), oneOf(lot, 1, 2, 3), oneOf(lot, 1, 2, 4), oneOf(lot, 1, 5, 12, 40))
	w := &world{t: t, lot: lot, jobs: map[int]*affair{}, events: events}
	w.b = over(t, c, fresh(t, oneOf(lot, 130, 200, roomy)))
	for range c.Nodes {
		w.keepers = append(w.keepers, &keeper{api.Pointer{Cur: lot.roll(3)}})
	}
	w.boots()
	return w
}

// goesOut holds a message against P20.8, and lets it fly.
func (w *world) goesOut(m api.Msg) {
	w.t.Helper()
	text, e := frame.Encode(m)
	is(w.t, "the frame", e, api.OK)
	whole, _ := frame.Decode(text)
	is(w.t, "the frame", whole, m)
	a := w.jobs[m.Id]
	if a == nil || m.Id != w.number {
		w.t.Fatalf("a message of the job %d, the last one is %d: %+v", m.Id, w.number, m)
	}
	is(w.t, "a message of a job that is over", a.over, false)
	switch m.Kind {
	case api.MsgBack:
		a.backs = true
	case api.MsgSwap, api.MsgFetch:
		is(w.t, "behind a Back", a.backs, false)
		is(w.t, "Version", m.Version, a.version)
	}
	w.flight = append(w.flight, m)
}

// armed arms the disk, mostly so that it goes down within the next writes.
func (w *world) armed() {
	if w.lot.roll(3) == 0 {
		done(w.t, w.b.d.Arm(w.lot.roll(6)))
	} else {
		done(w.t, w.b.d.Arm(-1))
	}
}

// does is a call of the steward: what it sends goes out; if it failed, power is lost.
func (w *world) does(list []api.Msg, e api.Errno) {
	w.t.Helper()
	switch e {
	case api.OK:
		for _, m := range list {
			w.goesOut(m)
		}
		w.told()
	case api.ErrDown, api.ErrFull:
		w.events[map[api.Errno]string{api.ErrDown: "down", api.ErrFull: "full"}[e]]++
		is(w.t, "messages beside an error", len(list), 0)
		w.crashes()
	default:
		w.t.Fatalf("the call: %d", e)
	}
}

// told holds a report that has come against the nodes and the log.
func (w *world) told() {
	w.t.Helper()
	a := w.jobs[w.number]
	r, e := w.b.Report()
	if a == nil || a.over || w.b.Busy() || e != api.OK || r.Job != w.number {
		return
	}
	a.over, a.outcome = true, r.Outcome
	w.events[[]string{"", "succeeded", "restored", "incomplete"}[r.Outcome]]++
	same(w.t, "the report", []int{r.Kind, r.Version}, []int{a.kind, a.version})
	if a.kind == api.JobLook {
		safeLogIs(w.t, w.b.d, w.number, 3, 0, 3)
		return
	}
	safeLogIs(w.t, w.b.d, w.number, a.kind, a.version, r.Outcome)
	for node, x := range w.keepers {
		if slices.Contains(r.Missing, node) {
			continue
		}
		is(w.t, "what the node holds", r.Holds[node], x.Cur)
		switch before, ok := a.ahead[node]; {
		case r.Outcome == api.Succeeded:
			is(w.t, "current behind Succeeded", x.Cur, a.version)
		case ok:
			is(w.t, "current behind a Back", x.Cur, before)
		}
	}
}

// crashes lets the disk lose its power, and the steward with it; then it is booted, over and over, by itself or by another one, till no power is lost.
func (w *world) crashes() {
	w.t.Helper()
	w.b.Halt()
	w.b.d.Crash(w.lot.roll(5), oneOf(w.lot, 0, 1, 30, 99))
	w.boots()
}

func (w *world) boots() {
	w.t.Helper()
	for {
		w.events["boot"]++
		if w.lot.roll(3) == 0 { // a new one over a copy of the disk
			w.b = over(w.t, w.b.c, copied(w.t, w.b.d))
		}
		if w.lot.roll(4) == 0 {
			done(w.t, w.b.d.Arm(w.lot.roll(2)))
		}
		list, e := w.b.Boot()
		if e == api.ErrDown {
			w.events["boot broken off"]++
			w.b.d.Crash(w.lot.roll(4), w.lot.roll(9))
			continue
		}
		if e != api.OK {
			w.t.Fatalf("Boot = %d", e)
		}
		done(w.t, w.b.d.Arm(-1))
		w.booted(list)
		return
	}
}

// booted holds what a Boot sends: what was begun and not told is taken back under its own number, or its end was written; a job of which no message went out may have been written.
func (w *world) booted(list []api.Msg) {
	w.t.Helper()
	j := logOf(w.t, w.b.d)
	if w.ghost != nil && j.Number == w.number+1 {
		w.events["written, and no message went out"]++
		w.number++
		w.jobs[w.number] = w.ghost
	}
	w.ghost = nil
	is(w.t, "the log's number", j.Number, w.number)
	a := w.jobs[w.number]
	switch {
	case a == nil || a.over || a.kind == api.JobLook:
		is(w.t, "messages of Boot", len(list), 0)
	case len(list) == 0:
		w.events["the end was written, and not told"]++
		is(w.t, "the log is open", j.Outcome == 0, false)
	default:
		w.events["taken back"]++
		sent(w.t, "Boot", list, api.OK, messages(back, w.b.n, w.number, 0))
	}
	for _, m := range list {
		w.goesOut(m)
	}
	if a != nil && len(list) == 0 {
		a.over = true
	}
	is(w.t, "Busy", w.b.Busy(), len(list) > 0)
	w.b.noReport(w.t, api.ErrIdle)
}

func (w *world) begins() {
	w.t.Helper()
	a := &affair{kind: oneOf(w.lot, 1, 1, 2, 2, 3), ahead: map[int]int{}}
	if a.kind != 3 {
		a.version = 1 + w.lot.roll(5)
	}
	w.armed()
	list, e := w.b.Begin(a.kind, a.version)
	if e != api.OK {
		if e == api.ErrFull && w.b.Up() { // no job has begun
			w.events["no room for a job"]++
			is(w.t, "Busy", w.b.Busy(), false)
			w.makesRoom()
			return
		}
		w.ghost = a
		w.does(list, e)
		return
	}
	w.number++
	is(w.t, "one number, one job", w.jobs[w.number] == nil, true)
	w.jobs[w.number] = a
	sent(w.t, "Begin", list, e, messages(firstPhase(a.kind), w.b.n, w.number, a.version))
	w.does(list, e)
}

// makesRoom takes away another's file, or makes one.
func (w *world) makesRoom() {
	d := w.b.d
	done(w.t, d.Arm(-1))
	if there(d, "filler") {
		done(w.t, d.Remove("filler"), d.SyncDir(""))
		return
	}
	room := d.Capacity() - d.Used() - oneOf(w.lot, 0, 62, 66, 140)
	if room > 0 {
		safeFile(w.t, d, "filler", room)
	}
}

func safeFile(t *testing.T, d *disk.Disk, name string, size int) {
	t.Helper()
	put(t, d, name, string(make([]byte, size)))
	done(t, d.Sync(name), d.SyncDir(""))
}

// arrives lets a letter come, or be lost; some of them are doubled.
func (w *world) arrives() {
	w.t.Helper()
	if len(w.flight) == 0 {
		return
	}
	at := w.lot.roll(len(w.flight))
	if w.lot.roll(3) > 0 {
		at = 0
	}
	m := w.flight[at]
	if w.lot.roll(8) > 0 {
		w.flight = slices.Delete(w.flight, at, at+1)
	}
	switch {
	case w.lot.roll(12) == 0: // lost
	case m.To == api.AddrControl:
		if m.Id < w.number {
			w.events["late answer"]++
		}
		w.armed()
		w.does(w.b.Take(m))
	default:
		w.atNode(m)
	}
}

// atNode lets a node carry out a message, and answer it.
func (w *world) atNode(m api.Msg) {
	w.t.Helper()
	x, a := w.keepers[m.To], w.jobs[m.Id]
	before := x.Pointer
	r := api.Msg{Kind: m.Kind + 1, From: m.To, To: m.From, Id: m.Id, Epoch: m.Epoch, Seq: m.Seq, Version: m.Version}
	switch refuses := w.lot.roll(40) == 0; {
	case refuses && m.Kind != api.MsgAsk:
		r.Code = oneOf(w.lot, api.ErrFull, api.ErrStuck, api.ErrAbsent)
	case m.Kind == api.MsgFetch && x.way(m.Epoch, 1) < 0:
		r.Code = api.ErrStale
	case m.Kind == api.MsgSwap:
		r.Code = x.swap(m.Version, m.Epoch, m.Seq)
	case m.Kind == api.MsgBack:
		r.Code = x.rollback(m.Epoch, m.Seq)
	}
	if m.Kind != api.MsgFetch {
		r.Version, r.Prev = x.Cur, x.Prev
	}
	if x.Pointer != before {
		if a.outcome == api.Succeeded || a.outcome == api.Restored {
			w.t.Errorf("a letter of the job %d, whose end was told, changed the node %d: %+v", m.Id, m.To, m)
		}
		if _, ok := a.ahead[m.To]; !ok {
			a.ahead[m.To] = before.Cur
		}
	}
	w.flight = append(w.flight, r)
}

func (w *world) step() {
	w.t.Helper()
	switch x := w.lot.roll(100); {
	case x < 70:
		w.arrives()
	case x < 84:
		w.armed()
		w.does(w.b.Tick())
	case x < 86:
		w.crashes()
	case x < 87:
		w.makesRoom()
	case x < 88 && w.b.Busy():
		w.armed()
		w.does(w.b.Stop())
	case !w.b.Busy():
		w.begins()
	}
	if len(w.flight) > 60 { // the oldest are lost
		w.flight = w.flight[20:]
	}
}

func TestOneNumberOneJob(t *testing.T) {
	lot, events := dice(2008), map[string]int{}
	for round := range 1200 {
		w := newWorld(t, &lot, events)
		for range 400 {
			w.step()
			if t.Failed() {
				t.Fatalf("world %d: job %d, %+v, %+v", round, w.number, w.jobs[w.number], events)
			}
		}
	}
	for _, what := range []string{
		"succeeded", "restored", "incomplete", "late answer", "down", "full", "boot broken off", "taken back",
		"written, and no message went out", "the end was written, and not told", "no room for a job",
	} {
		if events[what] < 200 {
			t.Errorf("%s: %d times", what, events[what])
		}
	}
	t.Log(events)
}
