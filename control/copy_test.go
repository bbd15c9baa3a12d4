package control

import (
	"fmt"
	"slices"
	"strings"
	"testing"

	"granary/api"
)

// P15.12: whose memory is whose; hard arguments.

// junk is a message that nobody sends.
var junk = api.Msg{Kind: -7, From: -7, To: -7, Id: -7, Epoch: -7, Seq: -7, Version: -7, Prev: -7, Code: -7, Key: "junk", Value: "junk"}

// life is a whole run of a controller: all that it answers, as text. What is done to the lists is no matter of the run.
func life(t *testing.T, c api.Cluster, open bool, spoil func(list []api.Msg), spoilReport func(r api.Report)) string {
	t.Helper()
	var text strings.Builder
	k, list, e := Resume(c, 5, 1, 7, open)
	tell := func(list []api.Msg, e api.Errno) {
		fmt.Fprintln(&text, list, e, k.Busy())
		spoil(list)
		r, e := k.Report()
		fmt.Fprintln(&text, r, e)
		spoilReport(r)
	}
	tell(list, e)
	for i, kind := range []int{1, 2, 3, 1, 2, 3, 1, 1} {
		job := 6 + i
		version := []int{1: 9, 2: 8, 3: 0}[kind]
		for k.Busy() {
			tell(k.Tick())
			tell(k.Take(reply(back, 1, job-1, 4, api.OK)))
		}
		tell(k.Begin(kind, version))
		tell(k.Tick())
		for node := range 3 {
			tell(k.Take(reply(firstPhase(kind), (node+i)%3, job, version, api.OK)))
			tell(k.Tick())
		}
		tell(k.Take(reply(swap, i%3, job, version, []api.Errno{api.OK, api.ErrAbsent}[i%2])))
		switch i % 4 {
		case 0:
			tell(k.Stop())
		case 1:
			tell(k.Revive())
		}
		tell(k.Tick())
		tell(k.Tick())
	}
	return text.String()
}

// Whoever gets a list may write into it and append to it: nothing else is changed by that.
func TestListsAreNew(t *testing.T) {
	for _, open := range []bool{true, false} {
		want := life(t, east(), open, func([]api.Msg) {}, func(api.Report) {})
		got := life(t, east(), open, func(list []api.Msg) { scribble(list, junk) }, func(r api.Report) {
			holds := slices.Clone(r.Holds)
			scribble(r.Missing, -99)
			same(t, "the other list of the report", r.Holds, holds)
			scribble(r.Holds, -98)
		})
		is(t, "behind scribbling", got, want)
	}
}

// Two answers have no memory in common, nor have the lists of one.
func TestListsAreNotShared(t *testing.T) {
	for _, s := range going() {
		k := s.at(t, east())
		takeIs(t, k, s.answer(1, api.OK), nil)
		k.Tick()
		one, _ := k.Tick()
		want := slices.Clone(one)
		scribble(one, junk)
		k.Tick()
		other, _ := k.Tick()
		same(t, s.name+": the next sending", other, want)
		for k.Busy() {
			k.Tick()
		}
		r, _ := k.Report()
		twin, _ := k.Report()
		same(t, "the same report", twin, r)
		holds, missing := slices.Clone(r.Holds), slices.Clone(r.Missing)
		scribble(r.Holds, 77)
		same(t, "Missing", r.Missing, missing)
		scribble(r.Missing, 78)
		same(t, "the other report", twin, api.Report{Job: r.Job, Kind: r.Kind, Version: r.Version, Outcome: r.Outcome, Holds: holds, Missing: missing})
		third, _ := k.Report()
		same(t, "the third report", third, twin)
	}
}

// roomy is E with more behind its lists, and what tells all of its memory.
func roomy() (api.Cluster, func() string) {
	nodes := append(east().Nodes, api.NodeDef{Parts: []int{7}}, api.NodeDef{Zone: 5})
	parts := []int{0, 2, 40, 41}
	nodes[0].Parts = parts[:2]
	c := east()
	c.Nodes = nodes[:3]
	return c, func() string { return fmt.Sprint(nodes, parts) }
}

func TestClusterIsNotChanged(t *testing.T) {
	c, tell := roomy()
	before := tell()
	for _, open := range []bool{true, false} {
		life(t, c, open, func(list []api.Msg) { scribble(list, junk) }, func(r api.Report) { scribble(r.Holds, 5); scribble(r.Missing, 5) })
		is(t, "the cluster", tell(), before)
	}
	for _, s := range stations() {
		story(t, s.at(t, c))
		is(t, "the cluster", tell(), before)
	}
	for _, c := range wrongClusters() {
		text := fmt.Sprint(c)
		New(c)
		Resume(c, 5, 1, 7, true)
		is(t, "a wrong one", fmt.Sprint(c), text)
	}
}

// What its holder does with the cluster's lists, behind New and behind Resume, makes no difference.
func TestClusterIsNotKept(t *testing.T) {
	for _, spoil := range []func(c api.Cluster){
		func(c api.Cluster) { c.Nodes[0].Parts[0], c.Nodes[0].Parts[1], c.Nodes[1].Parts[0] = 9, 9, 9 },
		func(c api.Cluster) { clear(c.Nodes) },
		func(c api.Cluster) { scribble(c.Nodes[0].Parts, -5); scribble(c.Nodes, api.NodeDef{Zone: 77}) },
	} {
		for _, s := range stations() {
			c, _ := roomy()
			k := s.at(t, c)
			spoil(c)
			s.unmoved(t, "behind another's writing", k, east())
		}
		c, _ := roomy()
		k := made(t, c)
		spoil(c)
		beginIs(t, k, 1, 7, messages(fetch, 1, 7, 0, 1, 2))
		sent(t, "Fetched", answered(t, k, fetch, 3, 1, 7), api.OK, messages(swap, 1, 7, 0, 1, 2))
		sent(t, "Swapped", answered(t, k, swap, 3, 1, 7), api.OK, nil)
		reportIs(t, k, 1, 1, 7, api.Succeeded, each(3, 7))
	}
}

// Hard numbers in each place of each call, at each station; each call ends, and none panics.
func TestHardArguments(t *testing.T) {
	numbers := []int{leastInt, leastInt + 1, -1 << 32, -1, 0, 1, 2, 3, 63, 64, 1 << 31, 1 << 32, most - 1, most, most + 1, mostInt - 1, mostInt}
	fields := []func(m *api.Msg, x int){
		func(m *api.Msg, x int) { m.Kind = x }, func(m *api.Msg, x int) { m.From = x }, func(m *api.Msg, x int) { m.To = x },
		func(m *api.Msg, x int) { m.Id = x }, func(m *api.Msg, x int) { m.Epoch = x }, func(m *api.Msg, x int) { m.Seq = x },
		func(m *api.Msg, x int) { m.Version = x }, func(m *api.Msg, x int) { m.Prev = x }, func(m *api.Msg, x int) { m.Code = api.Errno(x) },
	}
	for _, s := range stations() {
		for _, a := range numbers {
			k := s.at(t, east())
			for _, b := range numbers {
				for i, change := range fields {
					m := s.answer(1, api.OK)
					change(&m, a)
					fields[(i+1)%len(fields)](&m, b)
					k.Take(m)
				}
				k.Take(api.Msg{Kind: a, From: b, To: a, Id: b, Epoch: a, Seq: b, Version: a, Prev: b, Code: api.Errno(a), Key: "\xff\x00", Value: strings.Repeat("v", 9999)})
				k.Begin(a, b)
				k.Tick()
				k.Report()
				k.Busy()
			}
			k.Stop()
			k.Revive()
			k.Revive()
			story(t, k)
		}
	}
	for _, a := range numbers {
		for _, b := range numbers {
			for _, open := range []bool{true, false} {
				k, _, e := Resume(east(), a, b, a, open)
				is(t, "Resume", k != nil, e == api.OK)
				k, _, e = Resume(east(), b, a, b, open)
				is(t, "Resume", k != nil, e == api.OK)
				k.Begin(1, 7)
				k.Tick()
			}
		}
	}
}
