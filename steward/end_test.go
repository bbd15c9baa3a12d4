package steward

import (
	"fmt"
	"testing"

	"granary/api"
)

// P20.6

// Calls by which nothing ends: as control's, and no act, whatever the disk is armed with.
func TestCallsThatEndNothing(t *testing.T) {
	for _, s := range stations() {
		b := s.at(t, east())
		done(t, b.d.Arm(0))
		still(t, s.name, b.d, func() {
			for _, m := range []api.Msg{{}, reply(fetch, 0, 99, 7, api.OK), reply(swap, 3, s.job, 7, api.OK), reply(back, -1, s.job, 7, api.OK), reply(look, 64, s.job, 7, api.OK), {Kind: -1, From: -1}} {
				b.takeIs(t, m, nil)
			}
			b.tickIs(t, nil)
			if s.phase == "" {
				for _, phase := range []string{fetch, swap, back, look} {
					for job := range 6 {
						b.takeIs(t, reply(phase, 0, job, 7, api.OK), nil)
						b.takeIs(t, reply(phase, 0, job, 7, api.ErrFull), nil)
					}
				}
				for range 100 {
					b.tickIs(t, nil)
				}
				list, e := b.Stop()
				notSent(t, s.name+": Stop", list, e, api.ErrIdle)
				return
			}
			b.takeIs(t, s.answer(1, api.OK), nil)
			b.takeIs(t, s.answer(1, api.OK), nil)
			again := messages(s.phase, 3, s.job, s.version)
			b.tickIs(t, []api.Msg{again[0], again[2]})
		})
		is(t, s.name+": Up", b.Up(), true)
		is(t, s.name+": Busy", b.Busy(), s.phase != "")
	}
}

// Stop breaks a job off, and ends none but a look: no act.
func TestStop(t *testing.T) {
	for _, s := range going() {
		b := s.at(t, east())
		done(t, b.d.Arm(0))
		still(t, s.name, b.d, func() {
			switch s.phase {
			case look:
				b.stopIs(t, nil)
				b.reportIs(t, s.job, 3, 0, api.Incomplete, each(3, -1), 0, 1, 2)
				list, e := b.Stop()
				notSent(t, s.name+": Stop again", list, e, api.ErrIdle)
			case back:
				b.stopIs(t, nil)
				b.stopIs(t, nil)
				is(t, s.name+": Busy", b.Busy(), true)
			default:
				b.stopIs(t, messages(back, 3, s.job, 0))
				b.stopIs(t, nil)
				is(t, s.name+": Busy", b.Busy(), true)
			}
		})
		is(t, s.name+": Up", b.Up(), true)
	}
}

// ending is a way in which a job (no look) ends: what leads there, and the call by which it does.
type ending struct {
	name                        string
	job, kind, version, outcome int
	holds, missing              []int
	ready                       func(t *testing.T) *bench
	call                        func(b *bench) ([]api.Msg, api.Errno)
}

// upToTheLast takes a station of E up to the last answer.
func upToTheLast(at func(t *testing.T, c api.Cluster) *bench, phase string, job, version int) func(t *testing.T) *bench {
	return func(t *testing.T) *bench {
		t.Helper()
		b := at(t, east())
		for node := range 2 {
			b.takeIs(t, reply(phase, node, job, version, api.OK), nil)
		}
		return b
	}
}

// upToTheLastTick takes a station of E, in the phase back, up to the tick at which it is given up; node 1 answers.
func upToTheLastTick(at func(t *testing.T, c api.Cluster) *bench, job int) func(t *testing.T) *bench {
	return func(t *testing.T) *bench {
		t.Helper()
		b := at(t, east())
		b.takeIs(t, reply(back, 1, job, 9, api.OK), nil)
		for range 5 {
			_, e := b.Tick()
			done(t, e)
		}
		return b
	}
}

func takes(phase string, job, version int) func(b *bench) ([]api.Msg, api.Errno) {
	return func(b *bench) ([]api.Msg, api.Errno) { return b.Take(reply(phase, 2, job, version, api.OK)) }
}

func ticks(b *bench) ([]api.Msg, api.Errno) { return b.Tick() }

func endings() []ending {
	all, one, others := each(3, 9), []int{-1, 9, -1}, []int{0, 2}
	return []ending{
		{"a JobSwap succeeds", 1, 1, 7, 1, each(3, 7), nil, upToTheLast(inSwap, swap, 1, 7), takes(swap, 1, 7)},
		{"a JobSwap is restored", 1, 1, 7, 2, all, nil, upToTheLast(inBack, back, 1, 9), takes(back, 1, 9)},
		{"a JobSwap is incomplete", 1, 1, 7, 3, one, others, upToTheLastTick(inBack, 1), ticks},
		{"a JobBack succeeds", 1, 2, 4, 1, each(3, 4), nil, upToTheLast(inSwapOfBack, swap, 1, 4), takes(swap, 1, 4)},
		{"a JobBack is restored", 1, 2, 4, 2, all, nil, upToTheLast(inBackOfBack, back, 1, 9), takes(back, 1, 9)},
		{"a JobBack is incomplete", 1, 2, 4, 3, one, others, upToTheLastTick(inBackOfBack, 1), ticks},
		{"a resumed JobSwap is restored", 5, 1, 7, 2, all, nil, upToTheLast(resumed(5, 1, 7, 0), back, 5, 9), takes(back, 5, 9)},
		{"a resumed JobSwap is incomplete", 5, 1, 7, 3, one, others, upToTheLastTick(resumed(5, 1, 7, 0), 5), ticks},
		{"a resumed JobBack is restored", 5, 2, 4, 2, all, nil, upToTheLast(resumed(5, 2, 4, 0), back, 5, 9), takes(back, 5, 9)},
		{"a resumed JobBack is incomplete", 5, 2, 4, 3, one, others, upToTheLastTick(resumed(5, 2, 4, 0), 5), ticks},
		{"the second job succeeds", 2, 2, 7, 1, each(3, 7), nil, upToTheLast(behind(2, 7), swap, 2, 7), takes(swap, 2, 7)},
	}
}

// ended holds that the end was written and is told.
func (x ending) ended(t *testing.T, b *bench) {
	t.Helper()
	safeLogIs(t, b.d, x.job, x.kind, x.version, x.outcome)
	b.reportIs(t, x.job, x.kind, x.version, x.outcome, x.holds, x.missing...)
	is(t, x.name+": Up", b.Up(), true)
}

func TestEnds(t *testing.T) {
	for _, x := range endings() {
		b := x.ready(t)
		safeLogIs(t, b.d, x.job, x.kind, x.version, 0)
		costs(t, x.name, b.d, 5, func() {
			list, e := x.call(b)
			sent(t, x.name, list, e, nil)
		})
		x.ended(t, b)
		// What comes late changes nothing.
		done(t, b.d.Arm(0))
		still(t, x.name, b.d, func() {
			for _, phase := range []string{fetch, swap, back} {
				for node := range 3 {
					b.takeIs(t, reply(phase, node, x.job, x.version, api.OK), nil)
					b.takeIs(t, reply(phase, node, x.job, x.version, api.ErrFull), nil)
				}
			}
			for range 60 {
				b.tickIs(t, nil)
			}
		})
		x.ended(t, b)
		b.d.Crash(0, 0)
		b.again(t, nil)
		b.beginIs(t, 1, 8, x.job+1)
	}
}

// There is no room for the end: it is not told, the steward goes down, and the next Boot takes the job back.
func TestEndsWithoutRoom(t *testing.T) {
	for _, x := range endings() {
		for _, crash := range []bool{false, true} {
			b := x.ready(t)
			size := len(logText(x.job, x.kind, x.version, x.outcome))
			fill(t, b, size-1)
			dump := b.d.Dump()
			costs(t, x.name, b.d, 2, func() {
				list, e := x.call(b)
				notSent(t, x.name, list, e, api.ErrFull)
			})
			same(t, x.name+": the disk", b.d.Dump(), dump)
			b.isOff(t)
			if crash {
				b.d.Crash(1, 0) // job.new comes back
			}
			b.bootIs(t, messages(back, 3, x.job, 0))
			logIs(t, b.d, x.job, x.kind, x.version, 0)
			// It ends when there is room.
			done(t, b.d.Remove("filler"))
			fill(t, b, size)
			b.ends(t, back, x.job, 9)
			logIs(t, b.d, x.job, x.kind, x.version, 2)
			b.reportIs(t, x.job, x.kind, x.version, api.Restored, each(3, 9))
		}
	}
}

// There is no room for the end, and the disk goes down ahead of taking away what is left.
func TestEndsWithoutRoomAndPower(t *testing.T) {
	for _, x := range endings() {
		for fuse := range 3 {
			for keep := range 3 {
				b := x.ready(t)
				fill(t, b, 10)
				done(t, b.d.Arm(fuse))
				want := []api.Errno{api.ErrDown, api.ErrDown, api.ErrFull}[fuse]
				what := fmt.Sprintf("%s: %d acts", x.name, fuse)
				costs(t, what, b.d, fuse, func() {
					list, e := x.call(b)
					notSent(t, what, list, e, want)
				})
				is(t, what+": Down", b.d.Down(), want == api.ErrDown)
				b.isOff(t)
				b.d.Crash(keep, 99)
				b.bootIs(t, messages(back, 3, x.job, 0))
				logIs(t, b.d, x.job, x.kind, x.version, 0)
			}
		}
	}
}

// A disk with just the room for one log: each job that is begun ends down; when the log is bigger than the one that it follows, too.
func TestEndsOnASmallDisk(t *testing.T) {
	b := over(t, east(), fresh(t, 63))
	b.bootIs(t, nil)
	for range 3 {
		b.beginIs(t, 2, 7, 1)
		safeLogIs(t, b.d, 1, 2, 7, 0)
		list, e := b.answered(t, swap, 1, 7)
		notSent(t, "the last Swapped", list, e, api.ErrFull)
		b.isOff(t)
		b.bootIs(t, messages(back, 3, 1, 0))
		list, e = b.answered(t, back, 1, 7)
		notSent(t, "the last Backed", list, e, api.ErrFull)
		b.isOff(t)
		done(t, b.d.Remove("job"), b.d.SyncDir(""))
		b.bootIs(t, nil)
	}
	b = over(t, east(), fresh(t, 126))
	b.bootIs(t, nil)
	for job := 1; job < 10; job++ {
		b.beginIs(t, 2, 7, job)
		b.ends(t, swap, job, 7)
		safeLogIs(t, b.d, job, 2, 7, 1)
	}
	costs(t, "a log of 64 bytes", b.d, 2, func() { b.beginFails(t, 2, 7, api.ErrFull) })
	is(t, "Up", b.Up(), true)
	b.toldIs(t, 9, 2, 7, api.Succeeded, each(3, 7))
}

// A job is written twice, at its beginning and at its end, whatever phases it goes through: ten acts.
func TestWholeWay(t *testing.T) {
	b := booted(t, east(), "")
	costs(t, "a JobSwap", b.d, 10, func() {
		b.beginIs(t, 1, 7, 1)
		b.tickIs(t, nil)
		b.tickIs(t, messages(fetch, 3, 1, 7))
		list, e := b.answered(t, fetch, 1, 7)
		sent(t, "the last Fetched", list, e, messages(swap, 3, 1, 7))
		b.tickIs(t, nil)
		b.tickIs(t, messages(swap, 3, 1, 7))
		b.takeIs(t, reply(swap, 1, 1, 5, api.ErrStuck), messages(back, 3, 1, 0))
		b.takeIs(t, reply(back, 1, 1, 5, api.ErrStuck), nil)
		b.tickIs(t, nil)
		b.tickIs(t, messages(back, 3, 1, 0))
		b.ends(t, back, 1, 5)
	})
	safeLogIs(t, b.d, 1, 1, 7, 2)
	b.reportIs(t, 1, 1, 7, api.Restored, each(3, 5))
	costs(t, "a JobSwap of which nobody hears", b.d, 10, func() {
		b.beginIs(t, 1, 8, 2)
		for tick := 1; tick <= 56; tick++ {
			is(t, "Busy", b.Busy(), true)
			_, e := b.Tick()
			done(t, e)
		}
	})
	safeLogIs(t, b.d, 2, 1, 8, 3)
	b.reportIs(t, 2, 1, 8, api.Incomplete, each(3, -1), 0, 1, 2)
}
