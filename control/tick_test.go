package control

import (
	"fmt"
	"testing"

	"granary/api"
)

// P15.4, P15.10

// pace is how often is sent, and how long.
type pace struct{ resend, limit, patience int }

// paces has patience below, at and above a multiple of resend.
func paces() []pace {
	list := []pace{{1024, 2, 1100}, {3, 64, 200}, {2, 3, 50}}
	for _, resend := range []int{1, 2, 3, 5} {
		for _, limit := range []int{1, 2, 3} {
			for _, patience := range []int{1, 2, resend, resend + 1, 3*resend - 1, 3 * resend, 3*resend + 1} {
				if patience > 0 {
					list = append(list, pace{resend, limit, patience})
				}
			}
		}
	}
	return list
}

func (p pace) cluster(n int) api.Cluster { return many(n, p.resend, p.limit, p.patience) }

// quiet holds that so many ticks send just what the pace says, to these nodes.
func (s station) quiet(t *testing.T, k *Control, p pace, from, upto int, nodes []int) {
	t.Helper()
	for tick := from; tick <= upto; tick++ {
		list, e := k.Tick()
		var want []api.Msg
		if tick%p.resend == 0 {
			want = s.messages(nodes...)
		}
		sent(t, fmt.Sprintf("%s, %+v: tick %d", s.name, p, tick), list, e, want)
		is(t, "Busy", k.Busy(), true)
	}
}

// ends is the number of the tick at which the phase is given up.
func (s station) ends(p pace) int {
	if s.phase == fetch {
		return p.patience
	}
	return p.resend * p.limit
}

// givenUp holds what comes of the tick at which a phase is given up.
func (s station) givenUp(t *testing.T, k *Control, p pace, holds []int, missing []int) {
	t.Helper()
	list, e := k.Tick()
	if s.takesBack() {
		sent(t, fmt.Sprintf("%s, %+v: the last tick", s.name, p), list, e, s.backs(len(holds)))
		is(t, "Busy", k.Busy(), true)
		return
	}
	sent(t, fmt.Sprintf("%s, %+v: the last tick", s.name, p), list, e, nil)
	reportIs(t, k, s.job, s.kind, s.version, api.Incomplete, holds, missing...)
}

// Each tick of each phase, if nobody answers.
func TestTicks(t *testing.T) {
	for _, s := range going() {
		for _, p := range paces() {
			for _, n := range []int{1, 3} {
				k := s.at(t, p.cluster(n))
				s.quiet(t, k, p, 1, s.ends(p)-1, upto(n))
				s.givenUp(t, k, p, each(n, -1), upto(n))
			}
		}
	}
}

// Who answers is left out from then on: at each tick, ahead of just the sending and behind it.
func TestTicksWithAnswers(t *testing.T) {
	for _, s := range going() {
		for _, p := range paces()[2:] {
			for at := range s.ends(p) {
				for node := range 3 {
					k := s.at(t, p.cluster(3))
					s.quiet(t, k, p, 1, at, upto(3))
					takeIs(t, k, reply(s.phase, node, s.job, s.told(node), api.OK), nil)
					s.quiet(t, k, p, at+1, s.ends(p)-1, without(3, node))
					holds := each(3, -1)
					holds[node] = s.told(node)
					s.givenUp(t, k, p, holds, without(3, node))
				}
			}
		}
	}
}

// Answers one by one, between two sendings each: the others are asked on, in order.
func TestTicksWithMoreAndMoreAnswers(t *testing.T) {
	for _, s := range going() {
		p := pace{2, 64, 200}
		k := s.at(t, p.cluster(16))
		var done []int
		for i := range 15 {
			node := (7*i + 2) % 16
			done = append(done, node)
			takeIs(t, k, s.answer(node, api.OK), nil)
			s.quiet(t, k, p, 2*i+1, 2*i+2, without(16, done...))
		}
		list, _ := k.Take(s.answer(without(16, done...)[0], api.OK))
		s.completes(t, k, list, each(16, s.version))
	}
}

// Just ahead of the tick at which a phase is given up all may still come; at that tick it is too late.
func TestAnswersAtTheLastTick(t *testing.T) {
	for _, s := range going() {
		for _, p := range paces() {
			k := s.at(t, p.cluster(2))
			s.quiet(t, k, p, 1, s.ends(p)-1, upto(2))
			takeIs(t, k, s.answer(1, api.OK), nil)
			list, _ := k.Take(s.answer(0, api.OK))
			s.completes(t, k, list, each(2, s.version))
			k = s.at(t, p.cluster(2))
			s.quiet(t, k, p, 1, s.ends(p)-1, upto(2))
			takeIs(t, k, s.answer(1, api.OK), nil)
			k.Tick()
			takeIs(t, k, s.answer(0, api.OK), nil)
			if !s.takesBack() {
				reportIs(t, k, s.job, s.kind, s.version, api.Incomplete, []int{-1, s.version}, 0)
			}
		}
	}
}

// A phase that begins has its ticks and its sendings from the beginning, wherever the one ahead of it was.
func TestTicksBeginAnew(t *testing.T) {
	p := pace{3, 2, 9}
	for at := range 9 {
		k := inFetch(t, p.cluster(2))
		for range at {
			k.Tick()
		}
		takeIs(t, k, reply(fetch, 0, 1, 7, api.OK), nil)
		takeIs(t, k, reply(fetch, 1, 1, 7, api.OK), messages(swap, 1, 7, 0, 1))
		inSwap := station{name: "swap", phase: swap, job: 1, kind: 1, version: 7}
		inSwap.quiet(t, k, p, 1, at%6, upto(2))
		takeIs(t, k, reply(swap, 1, 1, 7, api.ErrAbsent), messages(back, 1, 0, 0, 1))
		inBack := station{name: "back", phase: back, job: 1, kind: 1, version: 7}
		inBack.quiet(t, k, p, 1, 5, upto(2))
		inBack.givenUp(t, k, p, each(2, -1), upto(2))
	}
}

func TestTickWithoutAJob(t *testing.T) {
	for _, s := range stations() {
		if s.phase != "" {
			continue
		}
		k := s.at(t, east())
		for range 200 {
			tickIs(t, k, nil)
		}
		s.unmoved(t, "ticks without a job", k, east())
		k = s.at(t, east())
		k.Tick() // what went by ahead of a job is nothing to it
		list, e := k.Begin(2, 4)
		is(t, "Begin", e, api.OK)
		tickIs(t, k, nil)
		tickIs(t, k, list)
	}
}

// P15.10: how many ticks a job takes at the most, when each phase comes to its end at the last moment.
func TestLongestJobs(t *testing.T) {
	for _, p := range paces() {
		full := p.resend * p.limit
		k := inFetch(t, p.cluster(2))
		silence(t, "a JobSwap, nobody fetches", k, p.patience+full)
		k = inFetch(t, p.cluster(2))
		for range p.patience - 1 {
			k.Tick()
		}
		takeIs(t, k, reply(fetch, 1, 1, 7, api.OK), nil)
		takeIs(t, k, reply(fetch, 0, 1, 7, api.OK), messages(swap, 1, 7, 0, 1))
		silence(t, "a JobSwap, nobody swaps", k, 2*full)
		silence(t, "a JobBack", inSwapOfBack(t, p.cluster(2)), 2*full)
		silence(t, "a JobLook", inLook(t, p.cluster(2)), full)
		silence(t, "a job that was resumed", inBackResumed(t, p.cluster(2)), full)
	}
}

// silence holds that a job ends behind just so many ticks, if nobody answers; the messages of each kind that go to a node are no more than the limit.
func silence(t *testing.T, what string, k *Control, ticks int) {
	t.Helper()
	counts := map[[2]int]int{}
	for i := range ticks {
		if !k.Busy() {
			t.Errorf("%s: it ended behind %d ticks, want %d", what, i, ticks)
			return
		}
		list, e := k.Tick()
		is(t, what, e, api.OK)
		for _, m := range list {
			counts[[2]int{m.Kind, m.To}]++
		}
	}
	is(t, what+": Busy", k.Busy(), false)
	for x, n := range counts {
		if x[0] != api.MsgFetch && n > k.limit {
			t.Errorf("%s: %d messages of kind %d to node %d", what, n, x[0], x[1])
		}
	}
	reported, e := k.Report()
	is(t, what, e, api.OK)
	is(t, what, reported.Outcome, api.Incomplete)
}

// How many messages go to a node in a phase in which nobody answers.
func TestHowManyMessages(t *testing.T) {
	for _, s := range going() {
		for _, p := range paces() {
			k := s.at(t, p.cluster(3))
			per := []int{1, 1, 1} // the first sending
			for range s.ends(p) - 1 {
				list, _ := k.Tick()
				for _, m := range list {
					per[m.To]++
				}
			}
			want := p.limit
			if s.phase == fetch {
				want = 1 + (p.patience-1)/p.resend
			}
			is(t, s.name, fmt.Sprint(per), fmt.Sprint(each(3, want)))
		}
	}
}
