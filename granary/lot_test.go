package granary

import (
	"fmt"
	"maps"
	"slices"
	"strings"
	"testing"

	"granary/api"
)

// drawn is a definition drawn by lot.
func drawn(lot *dice) string {
	count := oneOf(lot, 1, 2, 2, 3, 3, 4)
	parts := count + lot.roll(4)
	lists := make([]string, count)
	for p := range parts {
		n := p
		if p >= count {
			n = lot.roll(count)
		}
		lists[n] += " " + digits(p)
	}
	text := strings.TrimSuffix(one, "node 0 zone 0 parts 0\n")
	for n := range lists {
		text += fmt.Sprintf("node %d zone %d parts%s\n", n, lot.roll(2), lists[n])
	}
	block := oneOf(lot, 16, 64, 300, 4096)
	for _, s := range []struct {
		word  string
		value int
	}{
		{"replicas", 1 + lot.roll(min(count, 3))},
		{"width", oneOf(lot, 1, 1, 2, 16)},
		{"chunks", 1 + lot.roll(2)},
		{"retain", 1 + lot.roll(3)},
		{"block", block},
		{"rate", oneOf(lot, 16, 64, 4096)},
		{"per", oneOf(lot, 1, 1, 2)},
		{"burst", block + lot.roll(100)},
		{"tries", 1 + lot.roll(3)},
		{"base", 1 + lot.roll(2)},
		{"most", 2 + lot.roll(3)},
		{"quota", oneOf(lot, 100000, 100000, 100000, 700)},
		{"room", oneOf(lot, 100000, 100000, 6000, 3000, 2000)},
		{"depot", oneOf(lot, 100000, 100000, 20000)},
		{"resend", 1 + lot.roll(3)},
		{"limit", 1 + lot.roll(4)},
		{"patience", oneOf(lot, 8, 30, 100)},
		{"getwait", 1 + lot.roll(4)},
		{"strikes", 1 + lot.roll(3)},
		{"ban", 1 + lot.roll(8)},
		{"home", lot.roll(3)},
	} {
		text = changed(text, s.word+" "+digits(s.value))
	}
	return text
}

// drawnPairs is a dataset of few keys, so that versions differ in some of them.
func drawnPairs(lot *dice) []api.Pair {
	var list []api.Pair
	for range lot.roll(9) {
		list = append(list, api.Pair{Key: drawnKey(lot), Value: strings.Repeat(oneOf(lot, "a", "b", "\x00"), lot.roll(20))})
	}
	return list
}

func drawnKey(lot *dice) string {
	return string(rune('a' + lot.roll(9)))
}

// number is one of those from 0 to n, or one beside them.
func number(lot *dice, n int) int {
	switch lot.roll(40) {
	case 0:
		return -1
	case 1:
		return n
	case 2:
		return oneOf(lot, n+1, -2, -3, mostInt, leastInt)
	}
	return lot.roll(max(n, 1))
}

// mood is how often, of a hundred steps, what happens.
type mood struct{ deliver, turn, tick, orders, mail, power, ask int }

// drawnStep is a step that comes next.
func (w *witness) drawnStep(lot *dice, how mood) api.Op {
	if op, ok := w.mend(lot); ok {
		return op
	}
	if op, ok := w.trap(lot); ok {
		return op
	}
	at := lot.roll(100)
	under := func(share int) bool { at -= share; return at < 0 }
	flight, nodes := len(w.view.Flight), len(w.nodes)
	switch {
	case under(how.deliver):
		return api.Op{Kind: api.OpDeliver, I: number(lot, oneOf(lot, 1, flight, flight))}
	case under(how.turn):
		return api.Op{Kind: api.OpTurn, Node: number(lot, nodes), Fault: drawnFault(lot)}
	case under(how.tick):
		return api.Op{Kind: api.OpTick}
	case under(how.orders):
		return w.drawnOrder(lot)
	case under(how.mail):
		return oneOf(lot,
			api.Op{Kind: api.OpDrop, I: number(lot, flight)},
			api.Op{Kind: api.OpCopy, I: number(lot, flight)},
			api.Op{Kind: api.OpCopy, I: number(lot, flight)},
			api.Op{Kind: api.OpCut, I: address(lot, nodes), J: address(lot, nodes)},
			api.Op{Kind: api.OpHeal, I: address(lot, nodes), J: address(lot, nodes)},
			api.Op{Kind: api.OpHeal, I: lot.roll(nodes), J: api.AddrControl + lot.roll(4)})
	case under(how.power):
		return w.drawnPower(lot)
	case under(how.ask):
		return w.drawnAsk(lot)
	}
	return api.Op{Kind: lot.roll(30) - 4, Node: number(lot, nodes), I: number(lot, flight), J: lot.roll(9), Key: drawnKey(lot)}
}

// mend brings up, sooner or later, what is down.
func (w *witness) mend(lot *dice) (api.Op, bool) {
	down := []int{}
	for n, v := range w.view.Nodes {
		if !v.Up {
			down = append(down, n)
		}
	}
	if !w.view.Ruling {
		down = append(down, deskNumber)
	}
	if w.depotDown {
		down = append(down, depotNumber)
	}
	if len(down) == 0 || lot.roll(8) > 0 {
		return api.Op{}, false
	}
	n := oneOf(lot, down...)
	if n == depotNumber || lot.roll(2) == 0 {
		return api.Op{Kind: api.OpCrash, Node: n, I: lot.roll(6), J: lot.roll(40)}, true
	}
	if lot.roll(5) == 0 {
		return api.Op{Kind: api.OpFuse, Node: n, I: lot.roll(6)}, true
	}
	if n == deskNumber {
		return api.Op{Kind: api.OpRevive}, true
	}
	return api.Op{Kind: api.OpBoot, Node: n}, true
}

// trap sets a fuse where it goes off in the midst of something: an order, a job's beginning or end, a build.
func (w *witness) trap(lot *dice) (api.Op, bool) {
	var places []int
	for n, k := range w.nodes {
		if len(k.inbox) > 0 && (k.inbox[0].Kind == api.MsgSwap || k.inbox[0].Kind == api.MsgBack) {
			places = append(places, n)
		}
	}
	switch {
	case len(places) > 0 && lot.roll(5) == 0:
		return api.Op{Kind: api.OpFuse, Node: oneOf(lot, places...), I: lot.roll(6)}, true
	case lot.roll(40) == 0:
		return api.Op{Kind: api.OpFuse, Node: deskNumber, I: lot.roll(6)}, true
	case lot.roll(150) == 0:
		return api.Op{Kind: api.OpFuse, Node: depotNumber, I: lot.roll(120)}, true
	}
	return api.Op{}, false
}

func address(lot *dice, nodes int) int {
	if lot.roll(2) == 0 {
		return number(lot, nodes)
	}
	return 63 + lot.roll(6)
}

func drawnFault(lot *dice) api.Fault {
	if lot.roll(12) > 0 {
		return api.Fault{}
	}
	return api.Fault{Kind: lot.roll(6), At: oneOf(lot, -1, 0, 1, lot.roll(40), lot.roll(400), 5000), Mask: oneOf(lot, 0, 1, 255, 256, 511, -1)}
}

// drawnVersion is mostly one that is built.
func (w *witness) drawnVersion(lot *dice) int {
	if n := len(w.view.Built); n > 0 && lot.roll(12) > 0 {
		return w.view.Built[lot.roll(n)]
	}
	return oneOf(lot, 1, 2, 3, 4, 0, last+1, last)
}

func (w *witness) drawnOrder(lot *dice) api.Op {
	switch lot.roll(9) {
	case 0, 1:
		return api.Op{Kind: api.OpBuild, Job: api.Job{Version: oneOf(lot, 1, 2, 3, 4, 5, 6, 0), Policy: lot.roll(3), Memory: 1000, FanIn: 2}, Pairs: drawnPairs(lot)}
	case 2, 3, 4:
		return api.Op{Kind: api.OpSwap, I: w.drawnVersion(lot)}
	case 5:
		return api.Op{Kind: api.OpBack, I: w.drawnVersion(lot)}
	case 6:
		return api.Op{Kind: api.OpLook}
	case 7:
		return oneOf(lot, api.Op{Kind: api.OpStop}, api.Op{Kind: api.OpRevive}, api.Op{Kind: api.OpBoot, Node: number(lot, len(w.nodes))})
	}
	if lot.roll(3) == 0 {
		return api.Op{Kind: api.OpPurge, I: w.drawnVersion(lot)}
	}
	return api.Op{Kind: api.OpStop}
}

func (w *witness) drawnPower(lot *dice) api.Op {
	n := lot.roll(len(w.nodes)+2) - 2
	if lot.roll(20) == 0 {
		n = oneOf(lot, -3, len(w.nodes), mostInt)
	}
	if lot.roll(2) == 0 {
		return api.Op{Kind: api.OpCrash, Node: n, I: oneOf(lot, 0, 9, lot.roll(6), -1), J: lot.roll(40) - 1}
	}
	return api.Op{Kind: api.OpFuse, Node: n, I: oneOf(lot, lot.roll(6), lot.roll(30), lot.roll(60), -1)}
}

func (w *witness) drawnAsk(lot *dice) api.Op {
	switch lot.roll(8) {
	case 0, 1, 2:
		return api.Op{Kind: api.OpGet, Key: drawnKey(lot)}
	case 3:
		return api.Op{Kind: api.OpGetAll, Keys: []string{drawnKey(lot), drawnKey(lot), oneOf(lot, "", "x", "y", "z")}}
	case 4, 5:
		return api.Op{Kind: api.OpAudit, I: w.drawnVersion(lot)}
	}
	return api.Op{Kind: api.OpExport, I: w.drawnVersion(lot)}
}

// moods are of a run in which little goes wrong, and of others.
func moods() []mood {
	return []mood{
		{40, 40, 5, 4, 2, 1, 7},
		{35, 35, 8, 5, 5, 4, 6},
		{35, 25, 10, 8, 8, 8, 5},
		{30, 30, 20, 6, 2, 6, 5},
		{45, 45, 3, 6, 0, 0, 1},
	}
}

// run is a run drawn by lot.
func (w *witness) run(lot *dice, steps int) {
	w.t.Helper()
	how := oneOf(lot, moods()...)
	w.do(api.Op{Kind: api.OpBuild, Job: api.Job{Version: 1, Memory: 1000, FanIn: 2}, Pairs: drawnPairs(lot)})
	w.do(api.Op{Kind: api.OpBuild, Job: api.Job{Version: 2, Memory: 1000, FanIn: 2}, Pairs: drawnPairs(lot)})
	if lot.roll(4) > 0 {
		w.do(api.Op{Kind: api.OpSwap, I: 1})
		for range lot.roll(60) {
			w.hoard(lot)
			round(w.t, w.do, w.look, w.held)
		}
	}
	w.wander(lot, steps, how, oneOf(lot, 1, 4, 15, 40))
}

// wander goes on by rounds, and between two of them by so many steps by lot.
func (w *witness) wander(lot *dice, steps int, how mood, wild int) {
	w.t.Helper()
	for w.steps < steps {
		if lot.roll(150) == 0 {
			w.loads()
		}
		if lot.roll(wild) == 0 {
			w.goOn(lot)
			continue
		}
		w.do(w.drawnStep(lot, how))
	}
}

// goOn is a round, and ahead of it what a run needs if it is to come anywhere.
func (w *witness) goOn(lot *dice) {
	w.t.Helper()
	v := w.view
	switch {
	case lot.roll(6) > 0:
	case !v.Busy && lot.roll(3) == 0:
		w.do(api.Op{Kind: oneOf(lot, api.OpSwap, api.OpSwap, api.OpBack, api.OpLook), I: w.drawnVersion(lot)})
	case len(v.Built) < 5 && lot.roll(8) == 0:
		w.do(api.Op{Kind: api.OpBuild, Job: api.Job{Version: 1 + lot.roll(9), Memory: 1000, FanIn: 2}, Pairs: drawnPairs(lot)})
	default:
		w.do(w.drawnAsk(lot))
	}
	w.hoard(lot)
	round(w.t, w.do, w.look, w.held)
}

// hoard keeps copies of letters back, so that they come long behind their time: when other jobs are going on.
func (w *witness) hoard(lot *dice) {
	w.t.Helper()
	for at, l := range w.view.Flight {
		switch {
		case w.held[l.Id] && lot.roll(60) == 0:
			delete(w.held, l.Id)
		case w.held[l.Id]:
		case len(w.held) < 30 && lot.roll(10) == 0:
			if list := w.do(api.Op{Kind: api.OpCopy, I: at}); len(list) == 0 {
				w.held[w.lastId] = true
			}
		}
	}
}

// show tells how often things came about, if one asks for it.
func show(t *testing.T, count map[string]int) {
	t.Helper()
	for _, what := range slices.Sorted(maps.Keys(count)) {
		t.Log(what, count[what])
	}
}

// came: a lot in which something never comes about holds nothing.
func came(t *testing.T, count map[string]int, what ...string) {
	t.Helper()
	for _, w := range what {
		if count[w] < 3 {
			t.Errorf("%q came about %d times", w, count[w])
		}
	}
}

func TestRunsByLot(t *testing.T) {
	t.Parallel()
	count := map[string]int{}
	for seed := range 150 {
		lot := dice(seed)
		w := newWitness(t, drawn(&lot), count)
		w.run(&lot, 500)
		w.x.hold("behind a run")
		w.loads()
	}
	came(t, count, "a Load", "a Load of a disk whose node is down", "a job goes on behind a boot", "a Begin that was broken off", "old", "new", "lost",
		"built 0", "built 10", "got 0", "got 144", "outcome 0", "outcome 144", "outcome 171", "audited 1", "audited 3", "restored in a clean run",
		"exported, all missing: false, some missing: false", "exported, all missing: false, some missing: true",
		"report 1 1", "report 1 2", "report 1 3", "report 2 1", "report 2 2", "report 2 3", "report 3 1", "report 3 3",
		"refused 1", "refused 10", "refused 131", "refused 132", "refused 141", "refused 142", "refused 150", "refused 151", "refused 182", "refused 32", "refused 68", "refused 80", "refused 86")
	show(t, count)
}

// Letters come when other jobs are going on than those that they are of: nothing of them counts any more.
func TestLettersOfOtherJobs(t *testing.T) {
	t.Parallel()
	count := map[string]int{}
	for seed := range 40 {
		lot := dice(seed + 700)
		w := newWitness(t, changed(drawnCalm(&lot), "block 4096", "rate 65536", "burst 65536", "resend 2", "limit 2", "patience 30"), count)
		for v := range 3 {
			w.do(api.Op{Kind: api.OpBuild, Job: api.Job{Version: v + 1, Memory: 1000, FanIn: 2}, Pairs: drawnPairs(&lot)})
		}
		w.wander(&lot, 900, mood{10, 10, 0, 60, 20, 0, 0}, 1+9*lot.roll(2))
		w.loads()
	}
	came(t, count, "report 1 1", "report 1 2", "report 2 1", "report 2 2", "report 3 1", "report 3 3")
	show(t, count)
}
