package audit

import (
	"fmt"
	"slices"
	"strings"
	"testing"

	"granary/api"
)

// P19.6: whose memory is whose; hard arguments.

// junk is a message that nobody sends.
var junk = api.Msg{Kind: -7, From: -7, To: -7, Id: -7, Epoch: -7, Seq: -7, Version: -7, Prev: -7, Code: -7, Key: "junk", Value: "junk"}

// life is a whole run of an auditor of E: all that it answers, as text. What is done to the lists is no matter of the run.
func life(t *testing.T, a *Audit, spoil func(list []api.Msg), spoilReport func(r api.Audited)) string {
	t.Helper()
	var text strings.Builder
	tell := func(list []api.Msg, e api.Errno) {
		fmt.Fprintln(&text, list, e, a.Busy())
		spoil(list)
		r, e := a.Report()
		fmt.Fprintln(&text, r, e)
		spoilReport(r)
	}
	lot := dice(19)
	ended := 0
	for job := 1; job <= 40; job++ {
		tell(a.Begin(job))
		lists := eastLists()
		for a.Busy() {
			node := lot.roll(3)
			if lot.roll(4) == 0 || len(lists[node]) == 0 {
				tell(a.Tick())
				continue
			}
			m := answer(job, job, node, lists[node][0], lot.roll(9)/8, oneOf(&lot, sumS, sumS, sumS, sumS, sumS, sumT))
			lists[node] = lists[node][1:]
			if lot.roll(20) == 0 {
				m.Code = api.ErrContent
			}
			tell(a.Take(m))
			tell(a.Take(m))
		}
		ended++
	}
	is(t, "audits that ended", ended, 40)
	return text.String()
}

// Whoever gets a list may write into it and append to it: nothing else is changed by that.
func TestListsAreNew(t *testing.T) {
	want := life(t, made(t, east()), func([]api.Msg) {}, func(api.Audited) {})
	for _, text := range []string{fmt.Sprint(" ", api.AuditAlike, " [] []}"), fmt.Sprint(" ", api.AuditUnlike, " [1"), fmt.Sprint(" ", api.AuditOpen, " [] [")} {
		is(t, "the run has "+text, strings.Contains(want, text), true)
	}
	a := made(t, east())
	got := life(t, a, func(list []api.Msg) {
		stays(t, a, func() { scribble(list, junk) })
	}, func(r api.Audited) {
		stays(t, a, func() {
			differ := slices.Clone(r.Differ)
			scribble(r.Missing, -99)
			is(t, "the report's other list", fmt.Sprint(r.Differ), fmt.Sprint(differ))
			scribble(r.Differ, -98)
		})
	})
	is(t, "behind scribbling", got, want)
}

// Two answers have no memory in common: what was answered first is still so behind all that comes.
func TestListsAreNotShared(t *testing.T) {
	a := made(t, pace(1, 3))
	var lists, copies [][]api.Msg
	hold := func(list []api.Msg, e api.Errno) {
		t.Helper()
		is(t, "the call", e, api.OK)
		lists, copies = append(lists, list), append(copies, slices.Clone(list))
		for i := range lists {
			if !slices.Equal(lists[i], copies[i]) {
				t.Fatalf("an answer that was held is %v now", lists[i])
			}
		}
	}
	for job := 1; job <= 5; job++ {
		hold(a.Begin(7))
		hold(a.Tick())
		hold(a.Take(answer(job, 7, 0, 0, 4, sumS)))
		hold(a.Take(answer(job, 7, 1, 0, 5, sumS)))
		for a.Busy() {
			hold(a.Tick())
		}
	}
	for i := range lists {
		scribble(lists[i], junk)
	}
	one, _ := a.Report()
	other, _ := a.Report()
	same(t, "the same report", other, one)
	same(t, "the report", one, api.Audited{Job: 5, Version: 7, Outcome: api.AuditUnlike, Differ: []int{0}, Missing: []int{0, 1, 2}})
	scribble(one.Differ, 77)
	same(t, "its other list", one.Missing, []int{0, 1, 2})
	scribble(one.Missing, 78)
	same(t, "the other report", other, api.Audited{Job: 5, Version: 7, Outcome: api.AuditUnlike, Differ: []int{0}, Missing: []int{0, 1, 2}})
	beginIs(t, a, 7, first(6, 7))
	toldIs(t, a, 5, 7, api.AuditUnlike, []int{0}, []int{0, 1, 2})
}

// roomy is E with more behind its lists, and what tells all of its memory.
func roomy() (api.Cluster, func() string) {
	nodes := append(east().Nodes, api.NodeDef{Parts: []int{7}}, api.NodeDef{Zone: 5})
	parts := []int{0, 2, 40, 41}
	nodes[0].Parts = parts[:2]
	c := east()
	c.Nodes = nodes[:3]
	return c, func() string { return fmt.Sprint(nodes, parts) }
}

func TestClusterIsNotChanged(t *testing.T) {
	c, tell := roomy()
	before := tell()
	a := made(t, c)
	life(t, a, func(list []api.Msg) { scribble(list, junk) }, func(r api.Audited) { scribble(r.Differ, 5); scribble(r.Missing, 5) })
	is(t, "the cluster", tell(), before)
	for _, c := range wrongClusters() {
		text := fmt.Sprint(c)
		New(c)
		is(t, "a wrong one", fmt.Sprint(c), text)
	}
}

// What its holder does with the cluster's lists behind New makes no difference.
func TestClusterIsNotKept(t *testing.T) {
	want := life(t, made(t, east()), func([]api.Msg) {}, func(api.Audited) {})
	for _, spoil := range []func(c api.Cluster){
		func(c api.Cluster) { c.Nodes[0].Parts[0], c.Nodes[0].Parts[1], c.Nodes[1].Parts[0] = 9, 9, 9 },
		func(c api.Cluster) { clear(c.Nodes) },
		func(c api.Cluster) { c.Nodes[0], c.Nodes[1] = c.Nodes[1], c.Nodes[0] },
		func(c api.Cluster) { scribble(c.Nodes[0].Parts, -5); scribble(c.Nodes, api.NodeDef{Zone: 77}) },
	} {
		c, _ := roomy()
		a := made(t, c)
		stays(t, a, func() { spoil(c) })
		is(t, "behind another's writing", life(t, a, func([]api.Msg) {}, func(api.Audited) {}), want)

		c, _ = roomy()
		a = made(t, c)
		beginIs(t, a, 7, first(1, 7))
		takeIs(t, a, answer(1, 7, 1, 0, 5, sumS), question(1, 7, 1, 1))
		spoil(c)
		tells(t, a, 1, 7, 1, []int{1}, alike)
		tells(t, a, 1, 7, 0, upto(4), alike)
		tells(t, a, 1, 7, 2, []int{2, 3}, alike)
		reportIs(t, a, 1, 7, api.AuditUnlike, []int{0}, nil)
	}
}

// Two auditors of one cluster share nothing of it.
func TestTwoOfOneCluster(t *testing.T) {
	c := east()
	one, other := made(t, c), made(t, c)
	want := life(t, made(t, c), func([]api.Msg) {}, func(api.Audited) {})
	stays(t, other, func() { life(t, one, func([]api.Msg) {}, func(api.Audited) {}) })
	is(t, "the other", life(t, other, func([]api.Msg) {}, func(api.Audited) {}), want)
}

// Hard numbers and texts in each place of each call, at several places of an auditor; each call ends, and none panics.
func TestHardArguments(t *testing.T) {
	numbers := []int{leastInt, leastInt + 1, -1 << 32, -66, -1, 0, 1, 2, 3, 4, 13, 14, 15, 66, 1 << 31, 1 << 32, 1 << 53, mostInt - 1, mostInt}
	fields := []func(m *api.Msg, x int){
		func(m *api.Msg, x int) { m.Kind = x }, func(m *api.Msg, x int) { m.From = x }, func(m *api.Msg, x int) { m.To = x },
		func(m *api.Msg, x int) { m.Id = x }, func(m *api.Msg, x int) { m.Epoch = x }, func(m *api.Msg, x int) { m.Seq = x },
		func(m *api.Msg, x int) { m.Version = x }, func(m *api.Msg, x int) { m.Prev = x }, func(m *api.Msg, x int) { m.Code = api.Errno(x) },
	}
	for _, at := range []func(t *testing.T) *Audit{
		func(t *testing.T) *Audit { return made(t, east()) }, begun, third, fourth,
		func(t *testing.T) *Audit { a := fourth(t); fifth(t, a, 4, sumS); return a },
	} {
		for _, x := range numbers {
			a := at(t)
			for _, y := range numbers {
				for i, change := range fields {
					m := answer(1, 7, 0, 2, 4, sumS)
					change(&m, x)
					fields[(i+1)%len(fields)](&m, y)
					a.Take(m)
				}
				a.Take(api.Msg{Kind: x, From: y, To: x, Id: y, Epoch: x, Seq: y, Version: x, Prev: y, Code: api.Errno(x), Key: "\xff\x00", Value: strings.Repeat("v", 9999)})
				a.Take(api.Msg{Kind: api.MsgSummed, From: x, Id: 1, Seq: y, Version: 7, Value: sumS})
				a.Begin(x)
				a.Tick()
				a.Report()
				a.Busy()
			}
			story(t, a)
		}
	}
}
