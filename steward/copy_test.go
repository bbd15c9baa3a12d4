package steward

import (
	"fmt"
	"slices"
	"strings"
	"testing"

	"granary/api"
)

// P20.10: whose memory is whose; hard arguments.

// junk is a message that nobody sends.
var junk = api.Msg{Kind: -7, From: -7, To: -7, Id: -7, Epoch: -7, Seq: -7, Version: -7, Prev: -7, Code: -7, Key: "junk", Value: "junk"}

// life is a whole run of a steward, with Halts and Boots in it: all that it answers and what its disk has, as text. What is done to the lists is no matter of the run.
func life(t *testing.T, c api.Cluster, spoil func(list []api.Msg), spoilReport func(r api.Report)) string {
	t.Helper()
	var text strings.Builder
	b := over(t, c, fresh(t, roomy))
	tell := func(list []api.Msg, e api.Errno) {
		fmt.Fprintln(&text, list, e, b.Up(), b.Busy(), b.d.Dump())
		spoil(list)
		r, e := b.Report()
		fmt.Fprintln(&text, r, e)
		spoilReport(r)
	}
	tell(b.Boot())
	for job := 1; job <= 12; job++ {
		kind := 1 + job%3
		version := []int{1: 9, 2: 8, 3: 0}[kind]
		tell(b.Begin(kind, version))
		tell(b.Tick())
		for node := range 3 {
			tell(b.Take(reply(firstPhase(kind), (node+job)%3, job, version, api.OK)))
			tell(b.Tick())
		}
		tell(b.Take(reply(swap, job%3, job, version, []api.Errno{api.OK, api.ErrAbsent}[job%2])))
		switch job % 4 {
		case 0:
			tell(b.Stop())
		case 1:
			tell(nil, b.Halt())
			tell(b.Boot())
		case 2:
			tell(nil, b.Halt())
			b.d.Crash(0, 0)
			tell(b.Boot())
		}
		for b.Busy() {
			tell(b.Tick())
			tell(b.Take(reply(back, 1, job, 4, api.OK)))
		}
	}
	return text.String()
}

// Whoever gets a list may write into it and append to it: nothing else is changed by that.
func TestListsAreNew(t *testing.T) {
	want := life(t, east(), func([]api.Msg) {}, func(api.Report) {})
	got := life(t, east(), func(list []api.Msg) { scribble(list, junk) }, func(r api.Report) {
		holds := slices.Clone(r.Holds)
		scribble(r.Missing, -99)
		same(t, "the other list of the report", r.Holds, holds)
		scribble(r.Holds, -98)
	})
	is(t, "behind scribbling", got, want)
}

// Two answers have no memory in common.
func TestListsAreNotShared(t *testing.T) {
	for _, s := range going() {
		b := s.at(t, east())
		b.takeIs(t, s.answer(1, api.OK), nil)
		b.Tick()
		one, _ := b.Tick()
		want := slices.Clone(one)
		scribble(one, junk)
		b.Tick()
		other, _ := b.Tick()
		same(t, s.name+": the next sending", other, want)
		for b.Busy() {
			b.Tick()
		}
		r, _ := b.Report()
		twin, _ := b.Report()
		same(t, "the same report", twin, r)
		scribble(r.Holds, 77)
		scribble(r.Missing, 78)
		third, _ := b.Report()
		same(t, "the third report", third, twin)
	}
}

// spacious is E with more behind its lists, and what tells all of its memory.
func spacious() (api.Cluster, func() string) {
	nodes := append(east().Nodes, api.NodeDef{Parts: []int{7}}, api.NodeDef{Zone: 5})
	parts := []int{0, 2, 40, 41}
	nodes[0].Parts = parts[:2]
	c := east()
	c.Nodes = nodes[:3]
	return c, func() string { return fmt.Sprint(nodes, parts) }
}

func TestClusterIsNotChanged(t *testing.T) {
	c, tell := spacious()
	before := tell()
	life(t, c, func(list []api.Msg) { scribble(list, junk) }, func(r api.Report) { scribble(r.Holds, 5); scribble(r.Missing, 5) })
	is(t, "the cluster", tell(), before)
	for _, s := range stations() {
		s.at(t, c).story(t)
		is(t, "the cluster", tell(), before)
	}
	for _, c := range wrongClusters() {
		text := fmt.Sprint(c)
		New(c, fresh(t, roomy))
		New(c, nil)
		is(t, "a wrong one", fmt.Sprint(c), text)
	}
}

// What its holder does with the cluster's lists behind New makes no difference: neither ahead of the first Boot, nor behind it, nor at a later one.
func TestClusterIsNotKept(t *testing.T) {
	for _, spoil := range []func(c api.Cluster){
		func(c api.Cluster) { c.Nodes[0].Parts[0], c.Nodes[0].Parts[1], c.Nodes[1].Parts[0] = 9, 9, 9 },
		func(c api.Cluster) { clear(c.Nodes) },
		func(c api.Cluster) { scribble(c.Nodes[0].Parts, -5); scribble(c.Nodes, api.NodeDef{Zone: 77}) },
	} {
		for _, s := range stations() {
			c, _ := spacious()
			b := s.at(t, c)
			spoil(c)
			b.c = east()
			s.unmoved(t, "behind another's writing", b)
		}
		c, _ := spacious()
		b := over(t, c, fresh(t, roomy))
		spoil(c)
		b.bootIs(t, nil)
		b.beginIs(t, 1, 7, 1)
		b.again(t, messages(back, 3, 1, 0))
		b.ends(t, back, 1, 6)
		b.reportIs(t, 1, 1, 7, api.Restored, each(3, 6))
		b.beginIs(t, 1, 7, 2)
		list, e := b.answered(t, fetch, 2, 7)
		sent(t, "Fetched", list, e, messages(swap, 3, 2, 7))
		b.ends(t, swap, 2, 7)
		b.reportIs(t, 2, 1, 7, api.Succeeded, each(3, 7))
	}
}

// Hard numbers in each place of each call, at each station; each call ends, and none panics.
func TestHardArguments(t *testing.T) {
	numbers := []int{leastInt, leastInt + 1, -1 << 32, -1, 0, 1, 2, 3, 63, 64, 1 << 31, 1 << 32, most - 1, most, most + 1, mostInt - 1, mostInt}
	fields := []func(m *api.Msg, x int){
		func(m *api.Msg, x int) { m.Kind = x }, func(m *api.Msg, x int) { m.From = x }, func(m *api.Msg, x int) { m.To = x },
		func(m *api.Msg, x int) { m.Id = x }, func(m *api.Msg, x int) { m.Epoch = x }, func(m *api.Msg, x int) { m.Seq = x },
		func(m *api.Msg, x int) { m.Version = x }, func(m *api.Msg, x int) { m.Prev = x }, func(m *api.Msg, x int) { m.Code = api.Errno(x) },
	}
	for _, s := range stations() {
		for _, x := range numbers {
			b := s.at(t, east())
			for _, y := range numbers {
				for i, change := range fields {
					m := s.answerOrNone(1)
					change(&m, x)
					fields[(i+1)%len(fields)](&m, y)
					b.Take(m)
				}
				b.Take(api.Msg{Kind: x, From: y, To: x, Id: y, Epoch: x, Seq: y, Version: x, Prev: y, Code: api.Errno(x), Key: "\xff\x00", Value: strings.Repeat("v", 9999)})
				b.Begin(x, y)
				b.Tick()
				b.Report()
				b.Busy()
			}
			b.Stop()
			b.Boot()
			b.story(t)
			b.Halt()
			b.Take(api.Msg{From: x})
			b.Begin(x, x)
			b.Boot()
			bootOfWhatIsThere(t, s.name, over(t, east(), copied(t, b.d)))
		}
	}
}

// The same calls give the same answers, however often they are made.
func TestSameCallsSameAnswers(t *testing.T) {
	quiet := func() string { return life(t, east(), func([]api.Msg) {}, func(api.Report) {}) }
	want := quiet()
	for range 5 {
		is(t, "once more", quiet(), want)
	}
}
