package control

import (
	"testing"

	"granary/api"
)

// P15.5, P15.6

// within lets a controller go on from each place within a phase: behind some ticks, with some nodes having answered.
func within(t *testing.T, s station, c api.Cluster, do func(k *Control, answers []int)) {
	t.Helper()
	n := len(c.Nodes)
	for ticks := range 5 {
		for _, answers := range [][]int{nil, {0}, {n - 1}, upto(n - 1), upto(n)[1:]} {
			k := s.at(t, c)
			for _, node := range answers {
				takeIs(t, k, reply(s.phase, node, s.job, s.told(node), api.OK), nil)
			}
			for range ticks {
				k.Tick()
			}
			do(k, answers)
		}
	}
}

func TestStop(t *testing.T) {
	c := east()
	for _, s := range going() {
		within(t, s, c, func(k *Control, answers []int) {
			switch s.phase {
			case fetch, swap:
				stopIs(t, k, s.backs(3))
				s.backIsNew(t, k, c)
			case look:
				stopIs(t, k, nil)
				holds := each(3, -1)
				for _, node := range answers {
					holds[node] = s.told(node)
				}
				reportIs(t, k, s.job, s.kind, s.version, api.Incomplete, holds, without(3, answers...)...)
				list, e := k.Stop()
				notSent(t, "Stop", list, e, api.ErrIdle)
			}
		})
	}
}

// In back a Stop is nothing, however often, and wherever in the phase.
func TestStopInBack(t *testing.T) {
	for _, s := range going() {
		if s.phase != back {
			continue
		}
		var stopped, left []string
		within(t, s, east(), func(k *Control, _ []int) {
			stopIs(t, k, nil)
			stopIs(t, k, nil)
			stopped = append(stopped, story(t, k))
		})
		within(t, s, east(), func(k *Control, _ []int) { left = append(left, story(t, k)) })
		same(t, "behind Stop", stopped, left)
	}
}

// backIsNew holds that a controller is at the beginning of the phase back.
func (s station) backIsNew(t *testing.T, k *Control, c api.Cluster) {
	t.Helper()
	n := len(c.Nodes)
	p := pace{c.Resend, c.Limit, c.Patience}
	is(t, "Busy", k.Busy(), true)
	inBack := station{name: s.name + ", back", phase: back, job: s.job, kind: s.kind, version: s.version}
	inBack.quiet(t, k, p, 1, c.Resend*c.Limit-1, upto(n))
	inBack.givenUp(t, k, p, each(n, -1), upto(n))
}

func TestStopTwice(t *testing.T) {
	c := many(2, 1, 2, 9)
	for _, s := range going() {
		if s.phase == look {
			continue
		}
		k := s.at(t, c)
		k.Stop()
		k.Tick()
		takeIs(t, k, reply(back, 0, s.job, 5, api.OK), nil)
		stopIs(t, k, nil)
		stopIs(t, k, nil)
		is(t, "Busy", k.Busy(), true)
		tickIs(t, k, nil) // the second tick of the phase: it is over
		reportIs(t, k, s.job, s.kind, s.version, api.Incomplete, []int{5, -1}, 1)
	}
}

func TestRevive(t *testing.T) {
	c := east()
	for _, s := range going() {
		within(t, s, c, func(k *Control, _ []int) {
			if s.phase == look {
				reviveIs(t, k, nil)
				reportIs(t, k, s.job, 3, 0, api.Incomplete, []int{-1, -1, -1}, 0, 1, 2)
				list, e := k.Revive()
				notSent(t, "Revive", list, e, api.ErrIdle)
				return
			}
			reviveIs(t, k, s.backs(3))
			s.backIsNew(t, k, c)
		})
	}
}

// Twice, and within back: its ticks, its sendings and its answers begin anew each time.
func TestReviveTwice(t *testing.T) {
	c := east()
	for _, s := range going() {
		if s.phase == look {
			continue
		}
		within(t, s, c, func(k *Control, _ []int) {
			for i := range 8 {
				reviveIs(t, k, s.backs(3))
				for node := range i % 3 {
					takeIs(t, k, reply(back, node, s.job, 5, api.OK), nil)
				}
				for range i % 6 {
					k.Tick()
				}
			}
			reviveIs(t, k, s.backs(3))
			stopIs(t, k, nil)
			s.backIsNew(t, k, c)
		})
	}
}

// What a node told ahead of a Revive is forgotten: it must tell it anew, and what it tells then counts.
func TestReviveForgetsAnswers(t *testing.T) {
	for _, s := range going() {
		if s.phase != back {
			continue
		}
		k := s.at(t, east())
		takeIs(t, k, reply(back, 0, s.job, 5, api.OK), nil)
		takeIs(t, k, reply(back, 1, s.job, 6, api.OK), nil)
		reviveIs(t, k, s.backs(3))
		takeIs(t, k, reply(back, 2, s.job, 3, api.OK), nil)
		is(t, "Busy", k.Busy(), true)
		takeIs(t, k, reply(back, 0, s.job, 1, api.OK), nil)
		takeIs(t, k, reply(back, 1, s.job, 2, api.OK), nil)
		reportIs(t, k, s.job, s.kind, s.version, api.Restored, []int{1, 2, 3})
	}
}

// The job that goes on behind a Stop or a Revive is the same one: its number, its kind and its version stay.
func TestTheJobStaysTheSame(t *testing.T) {
	for _, s := range going() {
		if s.phase == look {
			continue
		}
		for _, call := range []func(k *Control) ([]api.Msg, api.Errno){(*Control).Stop, (*Control).Revive} {
			k := s.at(t, east())
			call(k)
			beginFails(t, k, 1, 7, api.ErrBusy)
			sent(t, "the last Backed", answered(t, k, back, 3, s.job, 5), api.OK, nil)
			reportIs(t, k, s.job, s.kind, s.version, api.Restored, each(3, 5))
			beginIs(t, k, 2, 9, messages(swap, s.job+1, 9, 0, 1, 2))
		}
	}
}

func TestStopAndReviveWithoutAJob(t *testing.T) {
	for _, s := range stations() {
		if s.phase != "" {
			continue
		}
		k := s.at(t, east())
		for range 3 {
			list, e := k.Stop()
			notSent(t, s.name+": Stop", list, e, api.ErrIdle)
			list, e = k.Revive()
			notSent(t, s.name+": Revive", list, e, api.ErrIdle)
		}
		s.unmoved(t, "Stop and Revive", k, east())
	}
}
