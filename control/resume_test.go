package control

import (
	"testing"

	"granary/api"
)

// P15.11

var someJobs = []int{leastInt, -1, 0, 1, 2, most - 1, most, most + 1, mostInt}

// wrongResume is what Resume says of a valid cluster and these.
func wrongResume(job, kind, version int, open bool) api.Errno {
	if job < 0 || job > most || open && job == 0 {
		return api.ErrArg
	}
	if !open {
		return api.OK
	}
	if kind == 3 {
		return api.ErrJob
	}
	return wrongJob(kind, version)
}

// Every number with every kind and version, open and not: of two faults the first is told.
func TestResume(t *testing.T) {
	for _, n := range []int{1, 3} {
		c := many(n, 2, 3, 50)
		for _, job := range someJobs {
			for _, kind := range someKinds {
				for _, version := range someVersions {
					for _, open := range []bool{true, false} {
						resumeIs(t, c, job, kind, version, open)
					}
				}
			}
		}
	}
}

func resumeIs(t *testing.T, c api.Cluster, job, kind, version int, open bool) {
	t.Helper()
	want := wrongResume(job, kind, version, open)
	k, list, e := Resume(c, job, kind, version, open)
	if want != api.OK {
		notSent(t, "Resume", list, e, want)
		is(t, "Resume: a controller", k != nil, false)
		return
	}
	if k == nil {
		t.Fatalf("Resume(%d, %d, %d, %v): %d", job, kind, version, open, e)
	}
	n := len(c.Nodes)
	is(t, "Busy", k.Busy(), open)
	noReport(t, k, api.ErrIdle)
	if open {
		sent(t, "Resume", list, e, messages(back, job, 0, upto(n)...))
		sent(t, "the last Backed", answered(t, k, back, n, job, 3), api.OK, nil)
		reportIs(t, k, job, kind, version, api.Restored, each(n, 3))
	} else {
		sent(t, "Resume", list, e, nil)
	}
	if job == most {
		beginFails(t, k, 2, 4, api.ErrBig)
		return
	}
	beginIs(t, k, 2, 4, messages(swap, job+1, 4, upto(n)...))
}

// A wrong cluster is told ahead of all else.
func TestResumeOfWrongClusters(t *testing.T) {
	for want, c := range wrongClusters() {
		for _, job := range []int{-1, 0, 5, most + 1} {
			for _, kind := range []int{0, 1, 3} {
				for _, open := range []bool{true, false} {
					k, list, e := Resume(c, job, kind, 0, open)
					notSent(t, "Resume", list, e, want)
					is(t, "Resume: a controller", k != nil, false)
				}
			}
		}
	}
}

// Behind Resume with nothing open the kind and the version make no difference.
func TestResumeOfNothingOpen(t *testing.T) {
	want := story(t, resumed(t, east(), 5, 0, 0, false))
	for _, kind := range someKinds {
		for _, version := range someVersions {
			is(t, "the same", story(t, resumed(t, east(), 5, kind, version, false)), want)
		}
	}
	is(t, "no job at all", story(t, resumed(t, east(), 0, 0, 0, false)), story(t, made(t, east())))
}

// What was open goes on in back: its ticks, sendings and answers are at their beginning.
func TestResumeGoesOn(t *testing.T) {
	c := east()
	for _, kind := range []int{1, 2} {
		s := station{name: "resumed", phase: back, job: 9, kind: kind, version: 6, at: func(t *testing.T, c api.Cluster) *Control {
			t.Helper()
			return resumed(t, c, 9, kind, 6, true)
		}}
		s.backIsNew(t, s.at(t, c), c)
		k := s.at(t, c)
		takeIs(t, k, reply(fetch, 0, 9, 6, api.OK), nil)
		takeIs(t, k, reply(swap, 0, 9, 6, api.OK), nil)
		takeIs(t, k, reply(swap, 0, 9, 6, api.ErrStale), nil)
		takeIs(t, k, reply(back, 0, 8, 6, api.OK), nil)
		s.unmoved(t, "late answers", k, c)
		k = s.at(t, c)
		stopIs(t, k, nil)
		beginFails(t, k, 1, 7, api.ErrBusy)
		takeIs(t, k, reply(back, 1, 9, 2, api.OK), nil)
		tickIs(t, k, nil)
		tickIs(t, k, messages(back, 9, 0, 0, 2))
		reviveIs(t, k, messages(back, 9, 0, 0, 1, 2))
		noReport(t, k, api.ErrIdle)
		for range 6 {
			k.Tick()
		}
		reportIs(t, k, 9, kind, 6, api.Incomplete, each(3, -1), 0, 1, 2)
		beginIs(t, k, 3, 0, messages(look, 10, 0, 0, 1, 2))
	}
}

// It goes on just as the job that was stopped in another controller: but that nothing has ended in it.
func TestResumeIsAsAStop(t *testing.T) {
	k := made(t, east())
	beginIs(t, k, 2, 4, messages(swap, 1, 4, 0, 1, 2))
	stopIs(t, k, messages(back, 1, 0, 0, 1, 2))
	is(t, "the same", story(t, resumed(t, east(), 1, 2, 4, true)), story(t, k))
}
