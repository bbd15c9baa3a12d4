package export

import (
	"fmt"
	"slices"
	"strings"
	"testing"

	"granary/api"
)

// P21.1, P21.5, P21.8: whose memory is whose; hard arguments.

// junk is a message that nobody sends, junkPair a pair that nobody has.
var (
	junk     = api.Msg{Kind: -7, From: -7, To: -7, Id: -7, Epoch: -7, Seq: -7, Version: -7, Prev: -7, Code: -7, Key: "junk", Value: "junk"}
	junkPair = api.Pair{Key: "junk", Value: "junk"}
)

// What may be done to the lists of an answer: nothing, or the worst.
func lets([]api.Msg)              {}
func letsReport(api.Exported)     {}
func spoils(list []api.Msg)       { scribble(list, junk) }
func spoilsReport(r api.Exported) { scribble(r.Pairs, junkPair); scribble(r.Missing, -99) }

// life is a whole run of an exporter of E: all that it answers, as text. What is done to the lists is no matter of the run.
func life(t *testing.T, x *Export, spoil func(list []api.Msg), spoilReport func(r api.Exported)) string {
	t.Helper()
	var text strings.Builder
	var now api.Msg
	tell := func(list []api.Msg, e api.Errno) {
		if len(list) == 1 {
			now = list[0]
		}
		fmt.Fprintln(&text, list, e, x.Busy())
		spoil(list)
		r, e := x.Report()
		fmt.Fprintln(&text, r, e)
		spoilReport(r)
	}
	lot := dice(21)
	for job := 1; job <= 40; job++ {
		tell(x.Begin(job))
		r := run{job, job}
		for f := fuse(0); x.Busy(); f.burn(t) {
			switch lot.roll(12) {
			case 0, 1:
				tell(x.Tick())
			case 2, 3:
				tell(x.Take(r.end(now.To, now.Seq, now.Prev)))
			case 4:
				tell(x.Take(r.no(now.To, now.Seq, now.Prev, api.ErrAbsent)))
			default:
				m := r.give(now.To, now.Seq, now.Prev, at(now.Seq, now.Prev))
				tell(x.Take(m))
				tell(x.Take(m))
			}
		}
	}
	return text.String()
}

// Whoever gets a list may write into it and append to it: nothing else is changed by that.
func TestListsAreNew(t *testing.T) {
	want := life(t, made(t, east()), lets, letsReport)
	for _, text := range []string{"{1 1 [", "} {key", "] [3]}", "] [0", " []}"} {
		is(t, "the run has "+text, strings.Contains(want, text), true)
	}
	x := made(t, east())
	got := life(t, x, func(list []api.Msg) {
		stays(t, x, func() { spoils(list) })
	}, func(r api.Exported) {
		stays(t, x, func() {
			pairs := slices.Clone(r.Pairs)
			scribble(r.Missing, -99)
			is(t, "the report's other list", slices.Equal(r.Pairs, pairs), true)
			scribble(r.Pairs, junkPair)
		})
	})
	is(t, "behind scribbling", got, want)
}

// Two answers have no memory in common: what was answered first is still so behind all that comes.
func TestListsAreNotShared(t *testing.T) {
	x := made(t, pace(1))
	var lists, copies [][]api.Msg
	hold := func(list []api.Msg, e api.Errno) {
		t.Helper()
		is(t, "the call", e, api.OK)
		lists, copies = append(lists, list), append(copies, slices.Clone(list))
		for i := range lists {
			if !slices.Equal(lists[i], copies[i]) {
				t.Fatalf("an answer that was held is %v now", lists[i])
			}
		}
	}
	var want []api.Pair
	for job := 1; job <= 5; job++ {
		r := run{job, 7}
		hold(x.Begin(7))
		hold(x.Take(r.give(0, 0, 0, abc)))
		hold(x.Take(r.end(0, 0, 1)))
		hold(x.Tick())
		hold(x.Take(r.give(0, 1, 0, at(1, 0))))
		hold(x.Take(r.end(0, 1, 1)))
		for f := fuse(0); x.Busy(); f.burn(t) {
			hold(x.Tick())
		}
		want = []api.Pair{abc, at(1, 0)}
	}
	for i := range lists {
		spoils(lists[i])
	}
	first, _ := x.Report()
	other, _ := x.Report()
	same(t, "the same report", other, first)
	toldIs(t, x, run{5, 7}, want, 2, 3)
	scribble(first.Pairs, junkPair)
	same(t, "its other list", first.Missing, []int{2, 3})
	scribble(first.Missing, 78)
	same(t, "the other report", other, api.Exported{Job: 5, Version: 7, Pairs: want, Missing: []int{2, 3}})
	begins(t, x, run{6, 7}, 0)
	toldIs(t, x, run{5, 7}, want, 2, 3)
	idles(t, x)
	same(t, "the other report behind the next export", other, api.Exported{Job: 5, Version: 7, Pairs: want, Missing: []int{2, 3}})
}

// roomy is E with more behind its lists, and what tells all of its memory.
func roomy() (api.Cluster, func() string) {
	c := east()
	nodes := append(c.Nodes, api.NodeDef{Parts: []int{7}}, api.NodeDef{Zone: 5})
	parts := []int{0, 2, 40, 41}
	nodes[0].Parts = parts[:2]
	c.Nodes = nodes[:3]
	return c, func() string { return fmt.Sprint(nodes, parts) }
}

func TestClusterIsNotChanged(t *testing.T) {
	c, tell := roomy()
	before := tell()
	x := made(t, c)
	life(t, x, spoils, spoilsReport)
	is(t, "the cluster", tell(), before)
	for _, c := range wrongClusters() {
		text := fmt.Sprint(c)
		New(c)
		is(t, "a wrong one", fmt.Sprint(c), text)
	}
}

// What its holder does with the cluster's lists behind New makes no difference.
func TestClusterIsNotKept(t *testing.T) {
	want := life(t, made(t, east()), lets, letsReport)
	for _, spoil := range []func(c api.Cluster){
		func(c api.Cluster) { c.Nodes[0].Parts[0], c.Nodes[0].Parts[1], c.Nodes[1].Parts[0] = 9, 9, 9 },
		func(c api.Cluster) { c.Nodes[0].Zone, c.Nodes[2].Zone = 1, 0 },
		func(c api.Cluster) { clear(c.Nodes) },
		func(c api.Cluster) { c.Nodes[0], c.Nodes[1] = c.Nodes[1], c.Nodes[0] },
		func(c api.Cluster) { scribble(c.Nodes[0].Parts, -5); scribble(c.Nodes, api.NodeDef{Zone: 77}) },
	} {
		c, _ := roomy()
		x := made(t, c)
		stays(t, x, func() { spoil(c) })
		is(t, "behind another's writing", life(t, x, lets, letsReport), want)

		c, _ = roomy()
		x = made(t, c)
		begins(t, x, one, 0)
		takeIs(t, x, one.give(0, 0, 0, abc), one.ask(0, 0, 1))
		spoil(c)
		takeIs(t, x, one.no(0, 0, 1, api.ErrOff), one.ask(1, 0, 1))
		takeIs(t, x, one.end(1, 0, 1), one.ask(1, 1, 0))
		takeIs(t, x, one.end(1, 1, 0), one.ask(2, 2, 0))
		tickIs(t, x)
		tickIs(t, x, one.ask(0, 2, 0))
		idles(t, x)
		reportIs(t, x, one, []api.Pair{abc}, 2, 3)
	}
}

// Two exporters of one cluster share nothing of it.
func TestTwoOfOneCluster(t *testing.T) {
	c := east()
	a, b := made(t, c), made(t, c)
	want := life(t, made(t, c), lets, letsReport)
	stays(t, b, func() { is(t, "one", life(t, a, spoils, spoilsReport), want) })
	is(t, "the other", life(t, b, lets, letsReport), want)
}

// The same calls give the same answers, each time.
func TestSameCallsSameAnswers(t *testing.T) {
	want := life(t, made(t, east()), lets, letsReport)
	for range 10 {
		is(t, "the same calls", life(t, made(t, east()), lets, letsReport), want)
	}
}

// Hard numbers and texts in each place of each call, at several places of an exporter; each call ends, and none panics.
func TestHardArguments(t *testing.T) {
	numbers := []int{leastInt, leastInt + 1, -1 << 32, -67, -1, 0, 1, 2, 3, 4, 7, 15, 16, 17, 67, 512, 1 << 31, 1 << 32, 1 << 53, mostInt - 1, mostInt}
	fields := []func(m *api.Msg, n int){
		func(m *api.Msg, n int) { m.Kind = n }, func(m *api.Msg, n int) { m.From = n }, func(m *api.Msg, n int) { m.To = n },
		func(m *api.Msg, n int) { m.Id = n }, func(m *api.Msg, n int) { m.Epoch = n }, func(m *api.Msg, n int) { m.Seq = n },
		func(m *api.Msg, n int) { m.Version = n }, func(m *api.Msg, n int) { m.Prev = n }, func(m *api.Msg, n int) { m.Code = api.Errno(n) },
	}
	for _, place := range []func(t *testing.T) *Export{
		func(t *testing.T) *Export { return made(t, east()) }, begun, midst, fourth,
		func(t *testing.T) *Export { x := begun(t); reads(t, x, one, 0, 0, 0, 512); return x },
	} {
		for _, a := range numbers {
			x := place(t)
			for _, b := range numbers {
				for i, change := range fields {
					m := toNow(x)
					change(&m, a)
					fields[(i+1)%len(fields)](&m, b)
					x.Take(m)
				}
				x.Take(api.Msg{Kind: a, From: b, To: a, Id: b, Epoch: a, Seq: b, Version: a, Prev: b, Code: api.Errno(a), Key: "\xff\x00", Value: strings.Repeat("v", 9999)})
				x.Take(api.Msg{Kind: api.MsgScanned, From: a, Id: 1, Seq: b, Version: 7, Prev: a})
				x.Begin(a)
				x.Tick()
				x.Report()
				x.Busy()
			}
			story(t, x)
		}
	}
}

// toNow is an answer with an empty pair to the question of now; without one, what it would be to the zero question.
func toNow(x *Export) api.Msg {
	w := x.job.wanted
	return run{w.job, w.version}.give(w.from, w.part, w.place, api.Pair{})
}
