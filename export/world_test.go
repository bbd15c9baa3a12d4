package export

import (
	"fmt"
	"slices"
	"testing"

	"granary/api"
	"granary/ring"
)

// P21.6, P21.7: owners that all have the same row; messages are lost, doubled, late and in any order by lot.

// world is an exporter and the owners around it. The witness holds all that was asked and all that came in time.
type world struct {
	x       *Export
	c       api.Cluster
	rows    map[int][][]api.Pair // by version and partition
	moods   []int                // by node: of a hundred questions, so many are answered with an error, or not at all
	flight  []api.Msg
	lossy   int // of so many messages one is lost; 0: none
	now     int
	asked   []inquiry // of the export that goes on
	version int
	begun   int // the time at which it was
}

// inquiry is a question, and what came to it in time.
type inquiry struct {
	q    api.Msg
	at   int
	came bool
	code api.Errno
}

// rowOf is a partition's row in a version: no pair of it is in another one.
func rowOf(version, part, n int) []api.Pair {
	list := crop(part, n)
	for k := range list {
		list[k].Value = fmt.Sprint("of ", version, ": ", list[k].Value)
	}
	return list
}

func worldOf(t *testing.T, lot *dice, lengths ...int) *world {
	t.Helper()
	c := dealt(lot)
	c.GetWait = 1 + lot.roll(6)
	w := &world{x: made(t, c), c: c, rows: map[int][][]api.Pair{}, lossy: lot.roll(8)}
	for _, version := range []int{7, 8} {
		for part := range w.x.rows {
			w.rows[version] = append(w.rows[version], rowOf(version, part, oneOf(lot, lengths...)))
		}
	}
	for range c.Nodes {
		w.moods = append(w.moods, oneOf(lot, 0, 0, 0, 3, 30, 100))
	}
	return w
}

// reply is what an owner says to a question: the pair, that there are no more, another error, or nothing.
func (w *world) reply(lot *dice, q api.Msg) []api.Msg {
	r, list := run{q.Id, q.Version}, w.rows[q.Version][q.Seq]
	switch {
	case lot.roll(100) < w.moods[q.To] && lot.roll(2) == 0:
		return nil
	case lot.roll(100) < w.moods[q.To]:
		return []api.Msg{r.no(q.To, q.Seq, q.Prev, oneOf(lot, codes...))}
	case q.Prev < len(list):
		return []api.Msg{r.give(q.To, q.Seq, q.Prev, list[q.Prev])}
	}
	return []api.Msg{r.end(q.To, q.Seq, q.Prev)}
}

// goesOut lets what a call answered fly.
func (w *world) goesOut(t *testing.T, list []api.Msg, e api.Errno) {
	t.Helper()
	is(t, "the call", e, api.OK)
	for _, q := range list {
		w.asked = append(w.asked, inquiry{q: q, at: w.now})
	}
	w.flight = append(w.flight, list...)
	if len(list) > 1 {
		t.Fatalf("%d messages", len(list))
	}
}

// comes lets a message come to the exporter.
func (w *world) comes(t *testing.T, m api.Msg) {
	t.Helper()
	if i := len(w.asked) - 1; i >= 0 && w.x.Busy() {
		q := w.asked[i].q
		if m.From == q.To && m.Id == q.Id && m.Seq == q.Seq && m.Version == q.Version && m.Prev == q.Prev {
			w.asked[i].came, w.asked[i].code = true, m.Code
		}
	}
	list, e := w.x.Take(m)
	w.goesOut(t, list, e)
}

func (w *world) tick(t *testing.T) {
	t.Helper()
	w.now++
	list, e := w.x.Tick()
	w.goesOut(t, list, e)
}

// step lets one thing happen: a tick, or a message that comes, is lost or doubled.
func (w *world) step(t *testing.T, lot *dice) {
	t.Helper()
	if len(w.flight) == 0 || lot.roll(10) == 0 {
		w.tick(t)
		return
	}
	i := len(w.flight) - 1
	if lot.roll(3) == 0 {
		i = lot.roll(len(w.flight))
	}
	m := w.flight[i]
	if lot.roll(5) > 0 { // else it comes once more
		w.flight = slices.Delete(w.flight, i, i+1)
	}
	switch {
	case w.lossy > 0 && lot.roll(20*w.lossy) == 0:
	case m.To == api.AddrExport:
		w.comes(t, m)
	default:
		w.flight = append(w.flight, w.reply(lot, m)...)
	}
}

// export lets an export go on to its end, and holds what it told.
func (w *world) export(t *testing.T, lot *dice, version int, events map[string]int) {
	t.Helper()
	w.asked, w.version, w.begun = nil, version, w.now
	list, e := w.x.Begin(version)
	w.goesOut(t, list, e)
	for f := fuse(0); w.x.Busy(); f.burn(t) {
		w.step(t, lot)
	}
	if most := len(w.x.rows) * (512 + w.c.Replicas) * w.c.GetWait; w.now-w.begun > most {
		t.Errorf("%d ticks, at most %d", w.now-w.begun, most)
	}
	r, e := w.x.Report()
	is(t, "Report", e, api.OK)
	is(t, "Version", r.Version, version)
	var want []api.Pair
	for part, row := range w.rows[version] {
		if !slices.Contains(r.Missing, part) {
			want = append(want, row...)
			events[fmt.Sprint("read by ", min(w.readers(part), 3))]++
			continue
		}
		events["missing"]++
		if len(row) > 512 {
			events["missing, and too long"]++
			continue
		}
		w.mayBeMissing(t, part)
	}
	if !slices.Equal(r.Pairs, want) {
		t.Errorf("Pairs: %q, want %q", r.Pairs, want)
	}
	is(t, "Missing rises", slices.IsSorted(r.Missing), true)
}

// readers are how many owners were asked for a partition.
func (w *world) readers(part int) int {
	nodes := map[int]int{}
	for _, a := range w.asked {
		if a.q.Seq == part {
			nodes[a.q.To]++
		}
	}
	return len(nodes)
}

// mayBeMissing holds that each owner of a partition was asked, and did not answer in time, or answered another error.
func (w *world) mayBeMissing(t *testing.T, part int) {
	t.Helper()
	owners, _ := ring.Owners(w.c, part)
	for _, node := range owners {
		last := -1
		for i, a := range w.asked {
			if a.q.Seq == part && a.q.To == node {
				last = i
			}
		}
		if last < 0 {
			t.Errorf("partition %d: node %d was not asked", part, node)
			continue
		}
		a := w.asked[last]
		if a.came && (a.code == api.OK || a.code == api.ErrEnd) {
			t.Errorf("partition %d: node %d answered %+v", part, node, a.q)
		}
		until := w.now
		if last+1 < len(w.asked) {
			until = w.asked[last+1].at
		}
		if !a.came && until-a.at != w.c.GetWait {
			t.Errorf("partition %d: node %d had from %d to %d", part, node, a.at, until)
		}
	}
}

func TestWorlds(t *testing.T) {
	lot, events := dice(217), map[string]int{}
	for i := range 600 {
		w := worldOf(t, &lot, 0, 1, 2, 3, 8, 20)
		for job := range 6 {
			w.export(t, &lot, 7+job%2, events) // what flies of the earlier ones may come in the later ones
			for range lot.roll(5) {
				w.step(t, &lot)
			}
		}
		if t.Failed() {
			t.Fatalf("world %d: %+v", i, w.c)
		}
	}
	for _, what := range []string{"missing", "read by 1", "read by 2", "read by 3"} {
		if events[what] < 200 {
			t.Errorf("%s: %d times", what, events[what])
		}
	}
}

func TestWorldsOfLongRows(t *testing.T) {
	lot, events := dice(712), map[string]int{}
	for i := range 150 {
		w := worldOf(t, &lot, 2, 511, 512, 513, 600)
		w.export(t, &lot, 7, events)
		w.export(t, &lot, 8, events)
		if t.Failed() {
			t.Fatalf("world %d: %+v", i, w.c)
		}
	}
	for _, what := range []string{"missing", "missing, and too long", "read by 1", "read by 2"} {
		if events[what] < 10 {
			t.Errorf("%s: %d times", what, events[what])
		}
	}
}

// Nothing is lost, and all answer: nothing is missing but what is too long.
func TestCalmWorlds(t *testing.T) {
	lot := dice(127)
	for range 100 {
		w := worldOf(t, &lot, 0, 1, 5, 100, 512, 513)
		w.lossy = 0
		clear(w.moods)
		list, e := w.x.Begin(7)
		for f := fuse(0); w.x.Busy(); f.burn(t) {
			is(t, "the call", e, api.OK)
			if len(list) != 1 {
				t.Fatalf("%+v", list)
			}
			list, e = w.x.Take(w.reply(&lot, list[0])[0])
		}
		var want []api.Pair
		var missing []int
		for part, row := range w.rows[7] {
			if len(row) > 512 {
				missing = append(missing, part)
			} else {
				want = append(want, row...)
			}
		}
		reportIs(t, w.x, one, want, missing...)
	}
}
