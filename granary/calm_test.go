package granary

import (
	"slices"
	"strings"
	"testing"

	"granary/api"
	"granary/paper"
)

// P24.10, P24.11, P24.14: rounds of calm behind runs drawn by lot.

func (w *witness) look() api.View { return w.view }

// heal makes every link whole that a run may have cut.
func (w *witness) heal() {
	w.t.Helper()
	var all []int
	for n := range len(w.nodes) + 2 {
		all = append(all, n)
	}
	all = append(all, 63, 64, 65, 66, 67)
	for i, a := range all {
		for _, b := range all[:i] {
			w.do(api.Op{Kind: api.OpHeal, I: a, J: b})
		}
	}
}

// clear drops every letter.
func (w *witness) clear() {
	w.t.Helper()
	for len(w.view.Flight) > 0 {
		w.do(api.Op{Kind: api.OpDrop, I: 0})
	}
}

// restart crashes every node and boots it.
func (w *witness) restart(lot *dice) {
	w.t.Helper()
	for n := range w.nodes {
		w.do(api.Op{Kind: api.OpCrash, Node: n, I: lot.roll(9), J: lot.roll(40)})
		w.do(api.Op{Kind: api.OpBoot, Node: n})
	}
}

// quiet brings about what P24.10 begins with.
func (w *witness) quiet(lot *dice) {
	w.t.Helper()
	w.heal()
	w.do(api.Op{Kind: api.OpCrash, Node: depotNumber, I: lot.roll(9)})
	if w.deskArmed || !w.view.Ruling || lot.roll(3) == 0 {
		w.do(api.Op{Kind: api.OpCrash, Node: deskNumber, I: lot.roll(9), J: lot.roll(40)})
		w.do(api.Op{Kind: api.OpRevive})
	}
	if lot.roll(2) == 0 {
		w.restart(lot)
	}
	served := lot.roll(2) == 0
	most := w.c.Patience + 2*w.c.Resend*w.c.Limit + 64*(512+16)*w.c.GetWait
	for ticks := 0; w.view.Busy || w.view.Auditing || w.view.Exporting || w.view.Open > 0; ticks++ {
		if ticks > most {
			w.fail("a job does not end")
		}
		if served && ticks < 300 {
			round(w.t, w.do, w.look, nil)
			continue
		}
		w.clear()
		w.do(api.Op{Kind: api.OpTick})
	}
	w.clear()
	w.restart(lot)
	for n, v := range w.view.Nodes {
		if !v.Up || v.Inbox != 0 || v.Fetch != (api.FetchState{}) {
			w.fail("node %d is not quiet", n)
		}
	}
}

// bound is the most of W(n) + F(n) over all nodes, and whether the premises of P24.10 hold for a version.
func (w *witness) bound(version int) (int, bool) {
	w.t.Helper()
	c, most, holds := w.c, 0, w.c.Resend*w.c.Limit >= 3
	for n := range w.nodes {
		text := w.made[version]["node-"+digits(n)+"/manifest"]
		m, e := paper.ParseManifest(text)
		if e != api.OK {
			w.fail("the manifest of version %d for node %d: %d", version, n, e)
		}
		ticks, blocks := 0, 0
		for _, f := range m.Files {
			for left := f.Size; left > 0; left -= c.Block {
				blocks++
				ticks += max(1, (min(left, c.Block)*c.Per+c.Rate-1)/c.Rate)
			}
		}
		sum := ticks + len(m.Files) + 1
		most = max(most, sum)
		used := 0
		for _, s := range w.m.Files(n) {
			used += len(s.Data)
		}
		holds = holds && sum+8 < c.Patience && m.Total <= c.Quota && c.Room-used >= m.Total+len(text)+64*(blocks+len(m.Files))+1000
		holds = holds && !slices.Contains(w.view.Nodes[n].Partial, version)
	}
	return most, holds
}

// fit is a built version for which the premises hold, but not this one; 0: there is none.
func (w *witness) fit(lot *dice, but int) int {
	w.t.Helper()
	var list []int
	for _, v := range w.view.Built {
		if _, holds := w.bound(v); holds && v != but {
			list = append(list, v)
		}
	}
	if len(list) == 0 {
		return 0
	}
	return oneOf(lot, list...)
}

// orders gives an order, and holds that it is reported as Succeeded within so many rounds.
func (w *witness) orders(op api.Op, most int) {
	w.t.Helper()
	if list := w.do(op); len(list) != 0 {
		w.fail("an order tells %+v", list)
	}
	for range most {
		for _, e := range round(w.t, w.do, w.look, nil) {
			if e.Kind != api.EvReport {
				continue
			}
			if e.Report.Outcome != api.Succeeded || e.Report.Version != op.I {
				w.fail("the report %+v", e.Report)
			}
			return
		}
	}
	w.fail("no report within %d rounds of %+v", most, op)
}

// asks opens gets of these keys, and holds that each of them ends within so many rounds, as D of the version says.
func (w *witness) asks(version, most int, keys ...string) {
	w.t.Helper()
	open := map[int]string{}
	first := len(w.tickets) + 1
	for i, key := range keys {
		w.do(api.Op{Kind: api.OpGet, Key: key})
		open[first+i] = key
	}
	for range most {
		for _, e := range round(w.t, w.do, w.look, nil) {
			key, is := open[e.Outcome.Ticket]
			if e.Kind != api.EvGot || !is {
				continue
			}
			value, there := w.data[version][key]
			code := map[bool]api.Errno{true: api.OK, false: api.ErrNoKey}[there]
			if e.Outcome.Code != code || e.Outcome.Version != version || e.Outcome.Value != value {
				w.fail("the get of %q from version %d: %+v", key, version, e.Outcome)
			}
			delete(open, e.Outcome.Ticket)
		}
	}
	if len(open) > 0 {
		w.fail("the gets %v are open behind %d rounds", open, most)
	}
}

// readsAll holds that an audit and an export of what all nodes have come to all of it.
func (w *witness) readsAll(version int) {
	w.t.Helper()
	w.do(api.Op{Kind: api.OpAudit, I: version})
	w.do(api.Op{Kind: api.OpExport, I: version})
	for w.view.Auditing || w.view.Exporting {
		for _, e := range round(w.t, w.do, w.look, nil) {
			if e.Kind == api.EvAudited && e.Audited.Outcome != api.AuditAlike || e.Kind == api.EvExported && len(e.Exported.Missing) > 0 {
				w.fail("in calm: %+v", e)
			}
		}
	}
}

func drawnKeys(lot *dice, count int) []string {
	var keys []string
	for range count {
		keys = append(keys, oneOf(lot, drawnKey(lot), drawnKey(lot), "another", strings.Repeat("k", 255)))
	}
	return keys
}

// hush makes nodes silent, each by a crash or by a cut, as many as one may be without; it answers the keys of which an owner is left.
func (w *witness) hush(lot *dice, keys []string) []string {
	w.t.Helper()
	silent := map[int]bool{}
	for range lot.roll(len(w.nodes) + 1) {
		n := lot.roll(len(w.nodes))
		if silent[n] {
			continue
		}
		silent[n] = true
		if lot.roll(2) == 0 {
			w.do(api.Op{Kind: api.OpCrash, Node: n, I: lot.roll(9)})
		} else {
			w.do(api.Op{Kind: api.OpCut, I: n, J: api.AddrClient})
		}
	}
	return slices.DeleteFunc(keys, func(key string) bool {
		count := 0
		for _, n := range w.owners(key) {
			if silent[n] {
				count++
			}
		}
		return count > w.c.Replicas-1
	})
}

func drawnCalm(lot *dice) string {
	text := changed(drawn(lot), "getwait "+digits(3+lot.roll(3)), "quota 100000")
	if lot.roll(3) > 0 {
		text = changed(text, "patience "+digits(200+lot.roll(400)), "limit 3", "room 100000", "depot 100000")
	}
	return text
}

// calms is a run of calm behind whatever a machine has been through.
func (w *witness) calms(lot *dice) {
	w.t.Helper()
	w.quiet(lot)
	for len(w.view.Built) < 2 {
		if list := w.do(api.Op{Kind: api.OpBuild, Job: api.Job{Version: 11 + lot.roll(1000), Memory: 1000, FanIn: 2}, Pairs: drawnPairs(lot)}); list[0].Code == api.ErrRoom {
			w.saw("no room in the depot")
			return
		}
	}
	v := w.fit(lot, 0)
	if v == 0 {
		w.saw("the premises do not hold")
		return
	}
	most, _ := w.bound(v)
	w.orders(api.Op{Kind: api.OpSwap, I: v}, most+12)
	w.saw("a swap in calm")
	for range lot.roll(4) {
		w.asks(v, 3, drawnKeys(lot, 1+lot.roll(8))...)
	}
	w.readsAll(v)
	if lot.roll(2) == 0 {
		w.quiet(lot)
	}
	current := v
	if next := w.fit(lot, v); next != 0 {
		most, _ := w.bound(next)
		w.orders(api.Op{Kind: api.OpSwap, I: next}, most+12)
		w.asks(next, 3, drawnKeys(lot, 8)...)
		if lot.roll(2) == 0 {
			w.quiet(lot)
		}
		reads := w.m.depot.Reads()
		w.orders(api.Op{Kind: api.OpBack, I: v}, 4)
		is(w.t, "blocks that were fetched for it", w.m.depot.Reads(), reads)
		w.asks(v, 3, drawnKeys(lot, 8)...)
		w.saw("a way back in calm")
	}
	if keys := w.hush(lot, drawnKeys(lot, 8)); len(keys) > 0 {
		for range 1 + lot.roll(4) {
			w.asks(current, 3+w.c.Replicas*w.c.GetWait, keys...)
		}
		w.saw("gets beside silent owners")
	}
}

func TestCalmBehindRuns(t *testing.T) {
	t.Parallel()
	count := map[string]int{}
	for seed := range 80 {
		lot := dice(seed + 5000)
		w := newWitness(t, drawnCalm(&lot), count)
		if seed%4 > 0 {
			w.run(&lot, 20+lot.roll(400))
		}
		w.calms(&lot)
	}
	came(t, count, "a swap in calm", "a way back in calm", "gets beside silent owners")
	show(t, count)
}

// The premises just hold: patience, room, quota and sendings are the least that they may be.
func TestCalmAtItsEdge(t *testing.T) {
	t.Parallel()
	for seed := range 60 {
		lot := dice(seed + 9000)
		text := changed(drawnCalm(&lot), "patience 60000", "room 100000", "depot 100000", "resend "+digits(1+2*lot.roll(2)))
		text = changed(text, "limit "+map[bool]string{true: "3", false: "1"}[strings.Contains(text, "resend 1\n")])
		op := api.Op{Kind: api.OpBuild, Job: api.Job{Version: 7, Memory: 1000, FanIn: 2}, Pairs: drawnPairs(&lot)}
		scout := newWitness(t, text, map[string]int{})
		scout.do(op)
		most, holds := scout.bound(7)
		if !holds {
			t.Fatalf("the premises do not hold: %s", text)
		}
		room, total := 0, 0
		for n := range scout.nodes {
			paperText := scout.made[7]["node-"+digits(n)+"/manifest"]
			m, _ := paper.ParseManifest(paperText)
			count := len(m.Files)
			for _, f := range m.Files {
				count += (f.Size + scout.c.Block - 1) / scout.c.Block
			}
			room, total = max(room, m.Total+len(paperText)+64*count+1000), max(total, m.Total)
		}
		w := newWitness(t, changed(text, "patience "+digits(most+9), "room "+digits(room), "quota "+digits(total)), map[string]int{})
		w.do(op)
		if _, holds := w.bound(7); !holds {
			t.Fatalf("the premises do not hold at their edge: %s", w.text)
		}
		w.orders(api.Op{Kind: api.OpSwap, I: 7}, most+12)
		w.asks(7, 3, drawnKeys(&lot, 8)...)
		w.loads()
	}
}
