package audit

import (
	"fmt"
	"slices"
	"testing"

	"granary/api"
)

// P19.4

// Nobody answers: each question goes out Limit times, Resend ticks apart, and just behind Limit times Resend ticks the audit has ended.
func TestNobodyAnswers(t *testing.T) {
	for _, resend := range []int{1, 2, 3, 7, 1024} {
		for _, limit := range []int{1, 2, 3, 64} {
			a := made(t, pace(resend, limit))
			beginIs(t, a, 7, first(1, 7))
			for tick := 1; tick <= limit*resend; tick++ {
				is(t, "Busy", a.Busy(), true)
				if tick%resend == 0 && tick < limit*resend {
					tickIs(t, a, first(1, 7)...)
				} else {
					tickIs(t, a)
				}
			}
			reportIs(t, a, 1, 7, api.AuditOpen, nil, upto(3))
			if t.Failed() {
				t.Fatalf("Resend %d, Limit %d", resend, limit)
			}
		}
	}
}

// Each node has a time of its own: its questions go out by when it was asked, not by when the audit began; those of one tick by rising nodes.
func TestEachNodeHasItsTime(t *testing.T) {
	a := made(t, pace(3, 2))
	beginIs(t, a, 7, first(1, 7))
	tickIs(t, a)                                                    // 1
	takeIs(t, a, answer(1, 7, 2, 2, 4, sumS), question(1, 7, 2, 3)) // its next times are 4 and 7
	tickIs(t, a)                                                    // 2
	takeIs(t, a, answer(1, 7, 0, 0, 4, sumS), question(1, 7, 0, 1)) // 5 and 8
	tickIs(t, a, question(1, 7, 1, 0))                              // 3; node 1 was asked at 0
	tickIs(t, a, question(1, 7, 2, 3))                              // 4
	tickIs(t, a, question(1, 7, 0, 1))                              // 5
	tickIs(t, a)                                                    // 6: node 1 is missing
	stays(t, a, func() { takeIs(t, a, answer(1, 7, 1, 0, 4, sumS)) })
	is(t, "Busy", a.Busy(), true)
	takeIs(t, a, answer(1, 7, 0, 1, 4, sumS), question(1, 7, 0, 2)) // 9 and 12
	tickIs(t, a)                                                    // 7: node 2 is missing
	stays(t, a, func() { takeIs(t, a, answer(1, 7, 2, 3, 4, sumS)) })
	tickIs(t, a)                                                    // 8
	tickIs(t, a, question(1, 7, 0, 2))                              // 9
	takeIs(t, a, answer(1, 7, 0, 2, 4, sumS), question(1, 7, 0, 3)) // 12 and 15
	wait(t, a, 2)
	tickIs(t, a, question(1, 7, 0, 3)) // 12
	wait(t, a, 2)
	is(t, "Busy", a.Busy(), true)
	tickIs(t, a) // 15
	reportIs(t, a, 1, 7, api.AuditOpen, nil, upto(3))
}

// The count and the time begin anew with each question, however often and how long ago the one ahead of it was sent.
func TestEachQuestionBeginsAnew(t *testing.T) {
	for _, resend := range []int{1, 2, 3} {
		for _, limit := range []int{1, 2, 3} {
			for ahead := range resend * limit {
				a := made(t, cluster(1, resend, limit, []int{0, 1, 2}))
				beginIs(t, a, 7, out(question(1, 7, 0, 0)))
				for part := range 2 {
					for range ahead {
						a.Tick()
					}
					takeIs(t, a, answer(1, 7, 0, part, 4, sumS), question(1, 7, 0, part+1))
				}
				for tick := 1; tick <= resend*limit; tick++ {
					is(t, "Busy", a.Busy(), true)
					if tick%resend == 0 && tick < resend*limit {
						tickIs(t, a, question(1, 7, 0, 2))
					} else {
						tickIs(t, a)
					}
				}
				reportIs(t, a, 1, 7, api.AuditOpen, nil, []int{0})
				if t.Failed() {
					t.Fatalf("Resend %d, Limit %d, answers behind %d ticks", resend, limit, ahead)
				}
			}
		}
	}
}

// A node may answer a question up to the tick that gives it up; its answer to any of the sendings is the same.
func TestAnswersInTime(t *testing.T) {
	for ticks := range 7 {
		a := begun(t)
		for range ticks {
			a.Tick()
		}
		for node, list := range eastLists() {
			if ticks == 6 {
				stays(t, a, func() { takeIs(t, a, answer(1, 7, node, list[0], 4, sumS)) })
			} else {
				tells(t, a, 1, 7, node, list, alike)
			}
		}
		if ticks == 6 {
			reportIs(t, a, 1, 7, api.AuditOpen, nil, upto(3))
		} else {
			reportIs(t, a, 1, 7, api.AuditAlike, nil, nil)
		}
	}
}

// Nodes that are through, missing or not asked are sent nothing; the others go on.
func TestOnlyThoseThatAreAsked(t *testing.T) {
	c := round(5, 1, 2, 3)
	c.Nodes = append(c.Nodes, api.NodeDef{})
	for mask := range 32 {
		a := made(t, c)
		a.Begin(7)
		var want []api.Msg
		var gone []int
		for node := range 5 {
			switch {
			case mask>>node&1 == 1:
				want = append(want, question(1, 7, node, node))
				gone = append(gone, node)
			case node%2 == 0:
				takeIs(t, a, answer(1, 7, node, node, 4, sumS))
			default:
				takeIs(t, a, refusal(1, 7, node, node, api.ErrAbsent))
				gone = append(gone, node)
			}
		}
		tickIs(t, a)
		tickIs(t, a, want...)
		tickIs(t, a)
		tickIs(t, a, want...)
		wait(t, a, 2)
		outcome := api.AuditOpen
		if len(gone) == 0 {
			outcome = api.AuditAlike
		}
		reportIs(t, a, 1, 7, outcome, nil, gone)
	}
}

// Missing is told by rising nodes, in whatever order they came to be so.
func TestMissingRises(t *testing.T) {
	for _, order := range orders(upto(4)) {
		a := made(t, round(4, 2, 4, 1))
		a.Begin(7)
		for i, node := range order {
			if i == 3 {
				wait(t, a, 1)
				for a.Busy() {
					a.Tick()
				}
				break
			}
			first := min(node, (node+3)%4)
			takeIs(t, a, refusal(1, 7, node, first, api.ErrAbsent))
		}
		reportIs(t, a, 1, 7, api.AuditOpen, nil, upto(4))
	}
}

// Ticks with no audit only let the time go by.
func TestTicksBetweenAudits(t *testing.T) {
	a := made(t, east())
	wait(t, a, 20)
	noReport(t, a, api.ErrIdle)
	for job := 1; job <= 5; job++ {
		beginIs(t, a, 7, first(job, 7))
		for node, list := range eastLists() {
			tells(t, a, job, 7, node, list, alike)
		}
		for range 3 * job {
			tickIs(t, a)
			reportIs(t, a, job, 7, api.AuditAlike, nil, nil)
		}
	}
}

// An audit to which nothing comes any more has ended behind Limit times Resend ticks, wherever it was.
func TestItEnds(t *testing.T) {
	lot := dice(194)
	for range 500 {
		resend, limit := 1+lot.roll(4), 1+lot.roll(4)
		nodes := 1 + lot.roll(6)
		c := round(nodes, 1+lot.roll(nodes), resend, limit)
		a, r := made(t, c), readNew(c)
		a.Begin(7)
		r.begin(7)
		for range lot.roll(30) {
			node := lot.roll(nodes)
			if part, ok := r.wanted(node); ok && lot.roll(2) == 0 {
				m := answer(1, 7, node, part, 4, sumS)
				takeIs(t, a, m, r.take(m)...)
			} else {
				tickIs(t, a, r.tick()...)
			}
		}
		most := 0
		for a.Busy() {
			a.Tick()
			most++
		}
		if most > resend*limit {
			t.Fatalf("%d ticks, Resend %d, Limit %d", most, resend, limit)
		}
	}
}

// Each node is sent each of its questions at most Limit times, and only while it is asked for it.
func TestSendings(t *testing.T) {
	lot := dice(1904)
	for range 200 {
		limit := 1 + lot.roll(3)
		a := made(t, pace(1+lot.roll(3), limit))
		lists, times := eastLists(), map[string]int{}
		count := func(list []api.Msg, e api.Errno) {
			t.Helper()
			is(t, "the call", e, api.OK)
			if !slices.IsSortedFunc(list, func(x, y api.Msg) int { return x.To - y.To }) {
				t.Errorf("%+v", list)
			}
			for _, m := range list {
				is(t, "the question", m, question(1, 7, m.To, lists[m.To][0]))
				name := fmt.Sprint(m.To, m.Seq)
				if times[name]++; times[name] > limit {
					t.Errorf("%+v goes out %d times", m, times[name])
				}
			}
		}
		count(a.Begin(7))
		for a.Busy() {
			if node := lot.roll(3); lot.roll(3) == 0 && len(lists[node]) > 0 {
				part := lists[node][0]
				if a.holders[node].state == asked {
					lists[node] = lists[node][1:]
				}
				count(a.Take(answer(1, 7, node, part, 4, sumS)))
			} else {
				count(a.Tick())
			}
		}
	}
}
