package steward

import (
	"testing"

	"granary/api"
)

// P20.7

// Until the first job since Boot ends there is no report; then it stays till the next one's end, whatever is refused, and goes with the memory.
func TestReportStays(t *testing.T) {
	for _, s := range stations() {
		b := s.at(t, east())
		before, e := b.Report()
		if s.ended == 0 {
			is(t, s.name+": Report", e, api.ErrIdle)
			same(t, s.name+": Report", before, api.Report{})
		} else {
			is(t, s.name+": Report", e, api.OK)
			is(t, s.name+": Job", before.Job, s.ended)
		}
		is(t, s.name+": Busy", b.Busy(), s.phase != "")
		b.Take(s.answer(1, api.OK))
		b.Tick()
		b.Begin(0, 0)
		b.Boot()
		if s.phase != look {
			b.Stop()
		}
		b.Tick()
		again, f := b.Report()
		is(t, s.name+": Report", f, e)
		same(t, s.name+": Report", again, before)
		if s.phase == "" {
			b.beginIs(t, 1, 8, s.next)
			again, f := b.Report()
			is(t, s.name+": Report in the next job", f, e)
			same(t, s.name+": Report in the next job", again, before)
			continue
		}
		for b.Busy() {
			_, e := b.Tick()
			done(t, e)
		}
		r, e := b.Report()
		is(t, s.name+": Report", e, api.OK)
		same(t, s.name+": Report", []int{r.Job, r.Kind, r.Version}, []int{s.job, s.kind, s.version})
		b.again(t, nil) // there is no report behind it
	}
}

// Jobs of each kind, with each outcome that it may have, one behind the other, in one steward: what the log and the report say.
func TestReportOfEachOutcome(t *testing.T) {
	b := booted(t, east(), "")
	job := 0
	begins := func(kind, version int) {
		job++
		b.beginIs(t, kind, version, job)
	}
	told := func(kind, version, outcome int, holds []int, missing ...int) {
		t.Helper()
		written := outcome
		if kind == 3 {
			written = 3
		}
		safeLogIs(t, b.d, job, kind, version, written)
		b.reportIs(t, job, kind, version, outcome, holds, missing...)
	}
	for range 3 {
		begins(1, 7)
		list, e := b.answered(t, fetch, job, 7)
		sent(t, "Fetched", list, e, messages(swap, 3, job, 7))
		b.ends(t, swap, job, 7)
		told(1, 7, api.Succeeded, each(3, 7))
		begins(1, 8)
		b.stopIs(t, messages(back, 3, job, 0))
		b.ends(t, back, job, 7)
		told(1, 8, api.Restored, each(3, 7))
		begins(1, 9)
		for range 56 {
			_, e := b.Tick()
			done(t, e)
		}
		told(1, 9, api.Incomplete, each(3, -1), 0, 1, 2)
		begins(2, 4)
		b.ends(t, swap, job, 4)
		told(2, 4, api.Succeeded, each(3, 4))
		begins(2, 5)
		b.takeIs(t, reply(swap, 1, job, 4, api.ErrAbsent), messages(back, 3, job, 0))
		b.ends(t, back, job, 4)
		told(2, 5, api.Restored, each(3, 4))
		begins(2, 6)
		b.stopIs(t, messages(back, 3, job, 0))
		b.takeIs(t, reply(back, 1, job, 4, api.OK), nil)
		for range 6 {
			_, e := b.Tick()
			done(t, e)
		}
		told(2, 6, api.Incomplete, []int{-1, 4, -1}, 0, 2)
		begins(3, 0)
		b.ends(t, look, job, 4)
		told(3, 0, api.Succeeded, each(3, 4))
		begins(3, 0)
		b.takeIs(t, reply(look, 2, job, 4, api.OK), nil)
		b.stopIs(t, nil)
		told(3, 0, api.Incomplete, []int{-1, -1, 4}, 0, 1)
	}
}
