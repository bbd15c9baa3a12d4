package control

import (
	"fmt"
	"testing"

	"granary/api"
)

// P15.7, P15.8

// Until the first job ends there is no report, at whatever place the controller is; then it stays till the next one's end.
func TestReportStays(t *testing.T) {
	for _, s := range stations() {
		k := s.at(t, east())
		before, e := k.Report()
		if s.ended == 0 {
			is(t, s.name+": Report", e, api.ErrIdle)
			same(t, s.name+": Report", before, api.Report{})
		} else {
			is(t, s.name+": Report", e, api.OK)
			is(t, s.name+": Job", before.Job, s.ended)
		}
		is(t, s.name+": Busy", k.Busy(), s.phase != "")
		k.Take(s.answer(1, api.OK))
		k.Tick()
		k.Begin(0, 0)
		if s.phase != look {
			k.Stop()
			k.Revive()
		}
		k.Tick()
		again, f := k.Report()
		is(t, s.name+": Report", f, e)
		same(t, s.name+": Report", again, before)
		if s.phase == "" {
			continue
		}
		for k.Busy() {
			k.Tick()
		}
		r, e := k.Report()
		is(t, s.name+": Report", e, api.OK)
		is(t, s.name+": Job", r.Job, s.job)
		is(t, s.name+": Kind", r.Kind, s.kind)
		is(t, s.name+": Version", r.Version, s.version)
	}
}

// Each set of nodes that have answered, at each end that leaves some out: they are told, and the others are missing, rising.
func TestWhoIsMissing(t *testing.T) {
	const n = 4
	for _, s := range going() {
		if s.takesBack() {
			continue
		}
		for set := range 1<<n - 1 {
			var missing []int
			holds := each(n, -1)
			k := s.at(t, many(n, 2, 2, 9))
			for node := range n {
				if set>>node&1 == 0 {
					missing = append(missing, node)
					continue
				}
				holds[node] = 10 * node
				takeIs(t, k, reply(s.phase, node, s.job, 10*node, api.OK), nil)
			}
			for range 3 {
				k.Tick()
				is(t, "Busy", k.Busy(), true)
			}
			tickIs(t, k, nil)
			reportIs(t, k, s.job, s.kind, s.version, api.Incomplete, holds, missing...)
		}
	}
}

// The report tells of the last phase alone: what was told in an earlier one is not in it.
func TestReportIsOfTheLastPhase(t *testing.T) {
	k := inSwap(t, east())
	takeIs(t, k, reply(swap, 0, 1, 7, api.OK), nil)
	takeIs(t, k, reply(swap, 1, 1, 7, api.OK), nil)
	stopIs(t, k, messages(back, 1, 0, 0, 1, 2))
	takeIs(t, k, reply(back, 2, 1, 5, api.OK), nil)
	for range 6 {
		k.Tick()
	}
	reportIs(t, k, 1, 1, 7, api.Incomplete, []int{-1, -1, 5}, 0, 1)
}

// Jobs of each kind, with each outcome that it may have, one behind the other.
func TestReportOfEachOutcome(t *testing.T) {
	k := made(t, east())
	job := 0
	next := func(kind, version int) {
		job++
		beginIs(t, k, kind, version, messages(firstPhase(kind), job, version, 0, 1, 2))
	}
	for range 3 {
		next(1, 7)
		sent(t, "Fetched", answered(t, k, fetch, 3, job, 7), api.OK, messages(swap, job, 7, 0, 1, 2))
		sent(t, "Swapped", answered(t, k, swap, 3, job, 7), api.OK, nil)
		reportIs(t, k, job, 1, 7, api.Succeeded, []int{7, 7, 7})
		next(1, 8)
		stopIs(t, k, messages(back, job, 0, 0, 1, 2))
		sent(t, "Backed", answered(t, k, back, 3, job, 7), api.OK, nil)
		reportIs(t, k, job, 1, 8, api.Restored, []int{7, 7, 7})
		next(1, 9)
		for range 56 {
			k.Tick()
		}
		reportIs(t, k, job, 1, 9, api.Incomplete, []int{-1, -1, -1}, 0, 1, 2)
		next(2, 4)
		sent(t, "Swapped", answered(t, k, swap, 3, job, 4), api.OK, nil)
		reportIs(t, k, job, 2, 4, api.Succeeded, []int{4, 4, 4})
		next(2, 5)
		takeIs(t, k, reply(swap, 1, job, 4, api.ErrAbsent), messages(back, job, 0, 0, 1, 2))
		sent(t, "Backed", answered(t, k, back, 3, job, 4), api.OK, nil)
		reportIs(t, k, job, 2, 5, api.Restored, []int{4, 4, 4})
		next(2, 6)
		reviveIs(t, k, messages(back, job, 0, 0, 1, 2))
		takeIs(t, k, reply(back, 1, job, 4, api.OK), nil)
		for range 6 {
			k.Tick()
		}
		reportIs(t, k, job, 2, 6, api.Incomplete, []int{-1, 4, -1}, 0, 2)
		next(3, 0)
		sent(t, "Told", answered(t, k, look, 3, job, 4), api.OK, nil)
		reportIs(t, k, job, 3, 0, api.Succeeded, []int{4, 4, 4})
		next(3, 0)
		takeIs(t, k, reply(look, 2, job, 4, api.OK), nil)
		stopIs(t, k, nil)
		reportIs(t, k, job, 3, 0, api.Incomplete, []int{-1, -1, 4}, 0, 1)
	}
}

// P15.8: once a Back has gone out no Swap does, whatever comes; without every node's Fetched no Swap does.
func TestPhasesAreNotMixed(t *testing.T) {
	for _, s := range going() {
		if s.phase != back {
			continue
		}
		k := s.at(t, east())
		for i := range 40 {
			for _, phase := range []string{fetch, swap} {
				for node := range 3 {
					takeIs(t, k, reply(phase, node, s.job, s.version, api.OK), nil)
				}
			}
			list, _ := k.Tick()
			if i%5 == 4 {
				list, _ = k.Revive()
			}
			for _, m := range list {
				is(t, fmt.Sprintf("%s: step %d: Kind", s.name, i), m.Kind, api.MsgBack)
			}
		}
	}
	k := inFetch(t, east())
	for i := range 49 {
		for node := range 3 {
			takeIs(t, k, reply(swap, node, 1, 7, api.OK), nil)
			if node != 1 {
				takeIs(t, k, reply(fetch, node, 1, 7, api.OK), nil)
			}
		}
		list, _ := k.Tick()
		for _, m := range list {
			is(t, fmt.Sprintf("tick %d: Kind", i), m.Kind, api.MsgFetch)
			is(t, fmt.Sprintf("tick %d: To", i), m.To, 1)
		}
	}
	tickIs(t, k, messages(back, 1, 0, 0, 1, 2))
	takeIs(t, k, reply(fetch, 1, 1, 7, api.OK), nil)
}
