package audit

import (
	"testing"

	"granary/api"
)

// P19.2

var wrongVersions = []int{leastInt, -1 << 32, -7, -1, 0, 1000000, 1000001, 1 << 32, 1<<32 + 7, mostInt}

func TestBeginVersions(t *testing.T) {
	for _, version := range []int{1, 2, 7, 999998, 999999} {
		a := made(t, east())
		beginIs(t, a, version, first(1, version))
		is(t, "Busy", a.Busy(), true)
	}
	a := made(t, east())
	for _, version := range wrongVersions {
		stays(t, a, func() { beginFails(t, a, version, api.ErrVersion) })
		is(t, "Busy", a.Busy(), false)
		noReport(t, a, api.ErrIdle)
	}
	beginIs(t, a, api.MaxVersion, first(1, api.MaxVersion)) // no number was used up
}

// While an audit goes on, every version is refused alike: that it goes on is told first.
func TestBeginWhileOneGoesOn(t *testing.T) {
	a := begun(t)
	all := append([]int{1, 7, 8, 999999}, wrongVersions...)
	busy := func() {
		t.Helper()
		for _, version := range all {
			stays(t, a, func() { beginFails(t, a, version, api.ErrBusy) })
			is(t, "Busy", a.Busy(), true)
		}
	}
	busy()
	tickIs(t, a)
	busy()
	takeIs(t, a, answer(1, 7, 1, 0, 4, sumS), question(1, 7, 1, 1))
	busy()
	tells(t, a, 1, 7, 1, []int{1}, alike)
	takeIs(t, a, refusal(1, 7, 2, 2, api.ErrAbsent))
	busy()
	tells(t, a, 1, 7, 0, upto(4), alike)
	reportIs(t, a, 1, 7, api.AuditOpen, nil, []int{2})
	for _, version := range wrongVersions { // behind an audit it is the version again
		stays(t, a, func() { beginFails(t, a, version, api.ErrVersion) })
	}
	beginIs(t, a, 8, first(2, 8))
	busy()
}

// The numbers count from 1, one an audit, whatever is refused in between and however the audits end.
func TestBeginNumbers(t *testing.T) {
	a := made(t, east())
	for job := 1; job <= 20; job++ {
		beginFails(t, a, 0, api.ErrVersion)
		beginIs(t, a, job+3, first(job, job+3))
		beginFails(t, a, job+3, api.ErrBusy)
		switch job % 3 {
		case 0:
			wait(t, a, 1)
			for a.Busy() {
				a.Tick()
			}
			reportIs(t, a, job, job+3, api.AuditOpen, nil, upto(3))
		case 1:
			for node, list := range eastLists() {
				tells(t, a, job, job+3, node, list, alike)
			}
			reportIs(t, a, job, job+3, api.AuditAlike, nil, nil)
		case 2:
			for node, list := range eastLists() {
				takeIs(t, a, refusal(job, job+3, node, list[0], api.ErrAbsent))
			}
			reportIs(t, a, job, job+3, api.AuditOpen, nil, upto(3))
		}
	}
}

// Each node is asked for the first partition that it holds, its own or another's, by rising nodes; one that holds nothing is not asked.
func TestBeginAsksWhoHoldsSomething(t *testing.T) {
	for _, x := range []struct {
		what  string
		c     api.Cluster
		lists [][]int
	}{
		{"one node", cluster(1, 2, 3, []int{0}), [][]int{{0}}},
		{"one node with all", cluster(1, 2, 3, upto(64)), [][]int{upto(64)}},
		{"the lists cross", cluster(1, 2, 3, []int{1, 3}, []int{0, 2}), [][]int{{1, 3}, {0, 2}}},
		{"nobody first", cluster(1, 2, 3, nil, []int{0, 1}), [][]int{nil, {0, 1}}},
		{"nobody last", cluster(1, 2, 3, []int{0, 1}, nil), [][]int{{0, 1}, nil}},
		{"nobody between", cluster(2, 2, 3, nil, []int{1}, nil, nil, []int{0}, nil), [][]int{nil, {0, 1}, nil, nil, {0, 1}, nil}},
		{"another's first", cluster(2, 2, 3, []int{1}, []int{0}, []int{2}), [][]int{{0, 1}, {0, 2}, {1, 2}}},
		{"all have all", round(4, 4, 2, 3), [][]int{upto(4), upto(4), upto(4), upto(4)}},
		{"the ring's end", round(4, 2, 2, 3), [][]int{{0, 3}, {0, 1}, {1, 2}, {2, 3}}},
		{"E", east(), eastLists()},
	} {
		a := made(t, x.c)
		var want []api.Msg
		for node, list := range x.lists {
			if len(list) > 0 {
				want = append(want, question(1, 7, node, list[0]))
			}
		}
		beginIs(t, a, 7, want)
		for node, list := range x.lists {
			is(t, x.what+": Busy", a.Busy(), node < len(x.lists)-1 || len(list) > 0)
			tells(t, a, 1, 7, node, list, alike)
			if len(list) == 0 {
				stays(t, a, func() { takeIs(t, a, answer(1, 7, node, 0, 4, sumS)) })
			}
		}
		reportIs(t, a, 1, 7, api.AuditAlike, nil, nil)
	}
}

// Nodes that hold nothing are never missing, whatever they answer and however long it takes.
func TestNodesWithoutAList(t *testing.T) {
	a := made(t, cluster(2, 2, 3, nil, []int{1}, nil, []int{0}, nil))
	beginIs(t, a, 7, out(question(1, 7, 1, 0), question(1, 7, 3, 0)))
	for _, node := range []int{0, 2, 4} {
		stays(t, a, func() {
			takeIs(t, a, answer(1, 7, node, 0, 4, sumS))
			takeIs(t, a, refusal(1, 7, node, 0, api.ErrForeign))
			takeIs(t, a, answer(1, 7, node, 0, 4, "short"))
		})
	}
	for a.Busy() {
		a.Tick()
	}
	reportIs(t, a, 1, 7, api.AuditOpen, nil, []int{1, 3})
}

// Each question was sent once, now: what went by ahead of Begin makes no difference.
func TestBeginBehindTicks(t *testing.T) {
	for ticks := range 12 {
		a := made(t, east())
		wait(t, a, ticks)
		beginIs(t, a, 7, first(1, 7))
		tickIs(t, a)
		tickIs(t, a, first(1, 7)...)
		tickIs(t, a)
		tickIs(t, a, first(1, 7)...)
		wait(t, a, 2)
		reportIs(t, a, 1, 7, api.AuditOpen, nil, upto(3))
	}
}

// A second audit begins anew: nothing of the first one is left, told or missing, sent or waited for.
func TestBeginAnew(t *testing.T) {
	for ticks := range 6 {
		a := begun(t)
		takeIs(t, a, answer(1, 7, 0, 0, 1, sumT), question(1, 7, 0, 1))
		takeIs(t, a, answer(1, 7, 1, 0, 2, sumS), question(1, 7, 1, 1))
		for a.Busy() {
			a.Tick()
		}
		reportIs(t, a, 1, 7, api.AuditUnlike, []int{0}, upto(3))
		wait(t, a, ticks)
		beginIs(t, a, 7, first(2, 7))
		tickIs(t, a)
		tickIs(t, a, first(2, 7)...)
		for _, node := range []int{0, 2} {
			tells(t, a, 2, 7, node, eastLists()[node], but(9, sumU, 0))
		}
		takeIs(t, a, refusal(2, 7, 1, 0, api.ErrAbsent)) // what it told of 0 in the audit before does not count
		reportIs(t, a, 2, 7, api.AuditOpen, nil, []int{1})
		beginIs(t, a, 7, first(3, 7))
		for node, list := range eastLists() {
			tells(t, a, 3, 7, node, list, alike)
		}
		reportIs(t, a, 3, 7, api.AuditAlike, nil, nil)
	}
}
