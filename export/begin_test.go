package export

import (
	"testing"

	"granary/api"
)

// P21.2

var wrongVersions = []int{leastInt, -1 << 32, -7, -1, 0, 1000000, 1000001, 1 << 32, 1<<32 + 7, mostInt}

func TestBeginVersions(t *testing.T) {
	for _, version := range []int{1, 2, 7, 999998, 999999} {
		x := made(t, east())
		begins(t, x, run{1, version}, 0)
		noReport(t, x, api.ErrIdle)
	}
	x := made(t, east())
	for _, version := range wrongVersions {
		stays(t, x, func() { beginFails(t, x, version, api.ErrVersion) })
		is(t, "Busy", x.Busy(), false)
		noReport(t, x, api.ErrIdle)
	}
	begins(t, x, run{1, api.MaxVersion}, 0) // no number was used up
}

// While an export goes on, every version is refused alike: that it goes on is told first.
func TestBeginWhileOneGoesOn(t *testing.T) {
	x := begun(t)
	busy := func() {
		t.Helper()
		for _, version := range append([]int{1, 7, 8, 999999}, wrongVersions...) {
			stays(t, x, func() { beginFails(t, x, version, api.ErrBusy) })
			is(t, "Busy", x.Busy(), true)
		}
	}
	busy()
	tickIs(t, x)
	busy()
	takeIs(t, x, one.give(0, 0, 0, abc), one.ask(0, 0, 1))
	busy()
	takeIs(t, x, one.no(0, 0, 1, api.ErrDown), one.ask(1, 0, 1))
	busy()
	takeIs(t, x, one.no(1, 0, 1, api.ErrDown), one.ask(1, 1, 0))
	busy()
	takeIs(t, x, one.end(1, 1, 0), one.ask(2, 2, 0))
	busy()
	takeIs(t, x, one.end(2, 2, 0), one.ask(2, 3, 0))
	busy()
	takeIs(t, x, one.end(2, 3, 0))
	reportIs(t, x, one, nil, 0)
	for _, version := range wrongVersions { // behind an export it is the version again
		stays(t, x, func() { beginFails(t, x, version, api.ErrVersion) })
	}
	begins(t, x, run{2, 8}, 0)
	busy()
}

// The numbers count from 1, one an export, whatever is refused in between and however the exports end.
func TestBeginNumbers(t *testing.T) {
	x := made(t, east())
	for job := 1; job <= 20; job++ {
		r := run{job, job + 3}
		beginFails(t, x, 0, api.ErrVersion)
		beginFails(t, x, 1000000, api.ErrVersion)
		begins(t, x, r, 0)
		beginFails(t, x, job+3, api.ErrBusy)
		beginFails(t, x, -1, api.ErrBusy)
		if job%2 == 0 {
			idles(t, x)
			reportIs(t, x, r, nil, 0, 1, 2, 3)
			continue
		}
		whole(t, x, r, 0, 0, job%3, r.ask(1, 1, 0))
		whole(t, x, r, 1, 1, 0, r.ask(2, 2, 0))
		whole(t, x, r, 2, 2, 0, r.ask(2, 3, 0))
		whole(t, x, r, 2, 3, 0)
		reportIs(t, x, r, crop(0, job%3))
	}
}

// Begin's question was sent now: what went by ahead of it makes no difference.
func TestBeginBehindTicks(t *testing.T) {
	for ticks := range 12 {
		x := made(t, pace(3))
		wait(t, x, ticks)
		begins(t, x, one, 0)
		wait(t, x, 2)
		tickIs(t, x, one.ask(1, 0, 0))
		wait(t, x, 2)
		tickIs(t, x, one.ask(1, 1, 0))
		idles(t, x)
		reportIs(t, x, one, nil, 0, 1, 2, 3)
	}
}

// A second export begins anew: nothing of the first one is left, no owner, pair or partition, nor how long it waited.
func TestBeginAnew(t *testing.T) {
	first := map[string]func(x *Export){
		"all read": func(x *Export) {
			whole(t, x, one, 0, 0, 3, one.ask(1, 1, 0))
			whole(t, x, one, 1, 1, 2, one.ask(2, 2, 0))
			whole(t, x, one, 2, 2, 0, one.ask(2, 3, 0))
			whole(t, x, one, 2, 3, 1)
		},
		"nothing read": func(x *Export) { idles(t, x) },
		"broken off at the last owner": func(x *Export) {
			whole(t, x, one, 0, 0, 3, one.ask(1, 1, 0))
			whole(t, x, one, 1, 1, 2, one.ask(2, 2, 0))
			whole(t, x, one, 2, 2, 0, one.ask(2, 3, 0))
			reads(t, x, one, 2, 3, 0, 4)
			takeIs(t, x, one.no(2, 3, 4, api.ErrContent), one.ask(0, 3, 4))
			wait(t, x, 2)
		},
	}
	for what, do := range first {
		for ticks := range 4 {
			x := begun(t)
			do(x)
			is(t, what+": Busy", x.Busy(), false)
			wait(t, x, ticks)
			r := run{2, 9}
			begins(t, x, r, 0)
			tickIs(t, x)
			takeIs(t, x, r.give(0, 0, 0, at(0, 0)), r.ask(0, 0, 1))
			tickIs(t, x)
			tickIs(t, x, r.ask(1, 0, 1))
			takeIs(t, x, r.end(1, 0, 1), r.ask(1, 1, 0))
			whole(t, x, r, 1, 1, 1, r.ask(2, 2, 0))
			whole(t, x, r, 2, 2, 0, r.ask(2, 3, 0))
			takeIs(t, x, r.no(2, 3, 0, api.ErrAbsent), r.ask(0, 3, 0))
			whole(t, x, r, 0, 3, 2)
			reportIs(t, x, r, append(append(crop(0, 1), crop(1, 1)...), crop(3, 2)...))
		}
	}
}

// One partition, one owner: the shortest export.
func TestTheLeastCluster(t *testing.T) {
	x := made(t, cluster(1, 1, []int{0}))
	for job := 1; job <= 4; job++ {
		r := run{job, 7}
		begins(t, x, r, 0)
		switch job {
		case 1:
			takeIs(t, x, r.end(0, 0, 0))
			reportIs(t, x, r, nil)
		case 2:
			takeIs(t, x, r.no(0, 0, 0, api.ErrAbsent))
			reportIs(t, x, r, nil, 0)
		case 3:
			tickIs(t, x)
			reportIs(t, x, r, nil, 0)
		case 4:
			whole(t, x, r, 0, 0, 5)
			reportIs(t, x, r, crop(0, 5))
		}
	}
}
