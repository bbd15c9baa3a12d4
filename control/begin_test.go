package control

import (
	"testing"

	"granary/api"
)

// P15.2

var (
	someKinds    = []int{leastInt, -1, 0, 1, 2, 3, 4, 5, mostInt}
	someVersions = []int{leastInt, -1, 0, 1, 2, last - 1, last, last + 1, most, mostInt}
)

// wrongJob is what a controller without a job says to a kind and a version.
func wrongJob(kind, version int) api.Errno {
	isVersion := version >= 1 && version <= 999999
	switch kind {
	case 1, 2:
		if isVersion {
			return api.OK
		}
		return api.ErrVersion
	case 3:
		if version == 0 {
			return api.OK
		}
		return api.ErrVersion
	}
	return api.ErrJob
}

func firstPhase(kind int) string { return []string{1: fetch, 2: swap, 3: look}[kind] }

// Every kind with every version, without a job: what is refused changes nothing, and uses up no number.
func TestBegin(t *testing.T) {
	for _, n := range []int{1, 2, 3, 16} {
		c := many(n, 2, 3, 50)
		for _, kind := range someKinds {
			for _, version := range someVersions {
				k := made(t, c)
				if want := wrongJob(kind, version); want != api.OK {
					beginFails(t, k, kind, version, want)
					beginFails(t, k, kind, version, want)
					is(t, "Busy", k.Busy(), false)
					noReport(t, k, api.ErrIdle)
					beginIs(t, k, 1, 7, messages(fetch, 1, 7, upto(n)...))
					continue
				}
				beginIs(t, k, kind, version, messages(firstPhase(kind), 1, version, upto(n)...))
				is(t, "Busy", k.Busy(), true)
				noReport(t, k, api.ErrIdle)
			}
		}
	}
}

// While a job is going on, each Begin is ErrBusy, whatever else is wrong with it.
func TestBeginWhileBusy(t *testing.T) {
	c := many(2, 2, 3, 9)
	for _, s := range going() {
		k := s.at(t, c)
		for _, kind := range someKinds {
			for _, version := range someVersions {
				beginFails(t, k, kind, version, api.ErrBusy)
			}
		}
		is(t, "Busy", k.Busy(), true)
		s.unmoved(t, "behind ErrBusy", k, c)
	}
}

// The next job begins behind each end, from its own beginning: nothing is left of the one ahead of it.
func TestBeginBehindAJob(t *testing.T) {
	for _, s := range stations() {
		if s.phase != "" {
			continue
		}
		for kind := 1; kind <= 3; kind++ {
			version := []int{1: 8, 2: 8, 3: 0}[kind]
			k := s.at(t, east())
			number := s.ended + 1
			if s.name == "resumed, nothing open" {
				number = 6
			}
			beginFails(t, k, 0, 0, api.ErrJob)
			beginFails(t, k, kind, -1, api.ErrVersion)
			beginIs(t, k, kind, version, messages(firstPhase(kind), number, version, 0, 1, 2))
			tickIs(t, k, nil)
			takeIs(t, k, reply(firstPhase(kind), 1, number, version, api.OK), nil)
			tickIs(t, k, messages(firstPhase(kind), number, version, 0, 2))
			beginFails(t, k, kind, version, api.ErrBusy)
		}
	}
}

// The numbers rise by one from job to job, whatever became of each.
func TestNumbersRise(t *testing.T) {
	k := made(t, many(2, 1, 1, 3))
	for job := 1; job <= 60; job++ {
		kind := job%3 + 1
		version := []int{1: job, 2: job + 100, 3: 0}[kind]
		phase := firstPhase(kind)
		beginIs(t, k, kind, version, messages(phase, job, version, 0, 1))
		switch job % 4 {
		case 0: // nobody answers
			for k.Busy() {
				k.Tick()
			}
		case 1: // all do
			for _, p := range []string{fetch, swap, look} {
				k.Take(reply(p, 1, job, version, api.OK))
				k.Take(reply(p, 0, job, version, api.OK))
			}
		case 2:
			k.Stop()
			k.Take(reply(back, 0, job, 5, api.OK))
			k.Take(reply(back, 1, job, 5, api.OK))
		case 3:
			k.Revive()
			k.Take(reply(back, 1, job, 5, api.OK))
			k.Tick()
		}
		r, e := k.Report()
		is(t, "Report", e, api.OK)
		is(t, "Busy", k.Busy(), false)
		is(t, "Job", r.Job, job)
		is(t, "Kind", r.Kind, kind)
		is(t, "Version", r.Version, version)
	}
}

// The last number is MaxNumber: the Begin behind it is refused, and a wrong kind or version is told ahead of that.
func TestBeginAtTheLastNumber(t *testing.T) {
	for kind := 1; kind <= 3; kind++ {
		version := []int{1: 8, 2: 8, 3: 0}[kind]
		phase := firstPhase(kind)
		k := resumed(t, east(), most-1, 0, 0, false)
		beginIs(t, k, kind, version, messages(phase, most, version, 0, 1, 2))
		beginFails(t, k, kind, version, api.ErrBusy)
		if kind == 3 {
			sent(t, "the last Told", answered(t, k, look, 3, most, 5), api.OK, nil)
			reportIs(t, k, most, 3, 0, api.Succeeded, each(3, 5))
		} else {
			stopIs(t, k, messages(back, most, 0, 0, 1, 2))
			sent(t, "the last Backed", answered(t, k, back, 3, most, 5), api.OK, nil)
			reportIs(t, k, most, kind, version, api.Restored, each(3, 5))
		}
		outOfNumbers(t, k)
		r, e := k.Report()
		is(t, "Report", e, api.OK)
		is(t, "Job", r.Job, most)
	}
	k := resumed(t, east(), most, 0, 0, false)
	outOfNumbers(t, k)
	noReport(t, k, api.ErrIdle)
	k = resumed(t, east(), most, 2, 4, true)
	beginFails(t, k, 1, 7, api.ErrBusy)
	sent(t, "the last Backed", answered(t, k, back, 3, most, 5), api.OK, nil)
	reportIs(t, k, most, 2, 4, api.Restored, each(3, 5))
	outOfNumbers(t, k)
}

func outOfNumbers(t *testing.T, k *Control) {
	t.Helper()
	for range 2 {
		for _, kind := range someKinds {
			for _, version := range someVersions {
				want := wrongJob(kind, version)
				if want == api.OK {
					want = api.ErrBig
				}
				beginFails(t, k, kind, version, want)
			}
		}
		is(t, "Busy", k.Busy(), false)
		tickIs(t, k, nil)
	}
}
