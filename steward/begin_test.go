package steward

import (
	"fmt"
	"testing"

	"granary/api"
)

// P20.5

// Each of control's errors, at each station: nothing is done, and nothing moves.
func TestBeginIsRefused(t *testing.T) {
	refused := []struct {
		kind, version int
		want          api.Errno
	}{
		{leastInt, 7, api.ErrJob}, {-1, 7, api.ErrJob}, {0, 7, api.ErrJob}, {4, 7, api.ErrJob}, {mostInt, 7, api.ErrJob},
		{0, 0, api.ErrJob}, {4, 0, api.ErrJob}, {4, -1, api.ErrJob}, {0, last + 1, api.ErrJob},
		{1, leastInt, api.ErrVersion}, {1, -1, api.ErrVersion}, {1, 0, api.ErrVersion}, {1, last + 1, api.ErrVersion}, {1, mostInt, api.ErrVersion},
		{2, leastInt, api.ErrVersion}, {2, -1, api.ErrVersion}, {2, 0, api.ErrVersion}, {2, last + 1, api.ErrVersion}, {2, mostInt, api.ErrVersion},
		{3, leastInt, api.ErrVersion}, {3, -1, api.ErrVersion}, {3, 1, api.ErrVersion}, {3, last, api.ErrVersion}, {3, mostInt, api.ErrVersion},
	}
	for _, s := range stations() {
		b := s.at(t, east())
		done(t, b.d.Arm(0)) // an act would be told
		still(t, s.name, b.d, func() {
			for _, x := range refused {
				want := x.want
				if s.phase != "" {
					want = api.ErrBusy
				}
				b.beginFails(t, x.kind, x.version, want)
			}
			if s.phase != "" {
				b.beginFails(t, 1, 7, api.ErrBusy)
				b.beginFails(t, 2, 7, api.ErrBusy)
				b.beginFails(t, 3, 0, api.ErrBusy)
			}
			is(t, s.name+": Up", b.Up(), true)
			is(t, s.name+": Busy", b.Busy(), s.phase != "")
		})
		done(t, b.d.Arm(-1))
		s.unmoved(t, "behind Begins that were refused", b)
	}
}

// No number is left: that is told last.
func TestBeginWithoutANumber(t *testing.T) {
	for _, log := range []string{logText(most, 1, 7, 1), logText(most, 2, 7, 2), logText(most, 3, 0, 3)} {
		b := booted(t, east(), log)
		still(t, "Begin", b.d, func() {
			for _, kind := range []int{1, 2} {
				b.beginFails(t, kind, 7, api.ErrBig)
				b.beginFails(t, kind, 0, api.ErrVersion)
			}
			b.beginFails(t, 3, 0, api.ErrBig)
			b.beginFails(t, 3, 1, api.ErrVersion)
			b.beginFails(t, 4, 7, api.ErrJob)
		})
		is(t, "Up", b.Up(), true)
	}
	// The last number's job is begun, ends, and is the last one; it is taken back behind a Boot, too.
	b := booted(t, east(), logText(most-1, 1, 7, 1))
	b.beginIs(t, 2, 4, most)
	safeLogIs(t, b.d, most, 2, 4, 0)
	b.beginFails(t, 2, 4, api.ErrBusy)
	b.again(t, messages(back, 3, most, 0))
	b.beginFails(t, 2, 4, api.ErrBusy)
	b.ends(t, back, most, 9)
	b.reportIs(t, most, 2, 4, api.Restored, each(3, 9))
	safeLogIs(t, b.d, most, 2, 4, 2)
	b.beginFails(t, 2, 4, api.ErrBig)
	b.again(t, nil)
	b.beginFails(t, 3, 0, api.ErrBig)
}

// Jobs of each kind, with versions at the ends of their range, at each place where none is going on: the log is written, then the messages go out.
func TestBegin(t *testing.T) {
	for _, c := range []api.Cluster{east(), many(1, 1, 1, 1), many(16, 2, 3, 50)} {
		for _, s := range idle() {
			for _, x := range [][2]int{{1, 1}, {1, 7}, {1, last}, {2, 1}, {2, 7}, {2, last}, {3, 0}} {
				b := s.at(t, c)
				costs(t, s.name+": Begin", b.d, 5, func() { b.beginIs(t, x[0], x[1], s.next) })
				outcome := 0
				if x[0] == 3 {
					outcome = 3
				}
				safeLogIs(t, b.d, s.next, x[0], x[1], outcome)
				is(t, "Up", b.Up(), true)
				var want []api.Msg
				if x[0] != 3 {
					want = messages(back, b.n, s.next, 0)
				}
				other := over(t, c, copied(t, b.d))
				other.bootIs(t, want)
				b.d.Crash(0, 0)
				b.again(t, want)
			}
		}
	}
}

// Numbers go on from job to job, and behind each Boot.
func TestNumbersGoOn(t *testing.T) {
	b := booted(t, east(), "")
	for job := 1; job <= 30; job++ {
		kind := 1 + job%3
		version := []int{1: 7, 2: 4, 3: 0}[kind]
		b.beginIs(t, kind, version, job)
		if job%2 == 0 && kind != 3 {
			b.again(t, messages(back, 3, job, 0))
			b.ends(t, back, job, 9)
			safeLogIs(t, b.d, job, kind, version, 2)
		} else {
			for b.Busy() {
				_, e := b.Tick()
				done(t, e)
			}
			safeLogIs(t, b.d, job, kind, version, 3)
		}
		if job%5 == 0 {
			b.again(t, nil)
		}
	}
}

// A look's log is written once: nothing is at its end, however that comes.
func TestLook(t *testing.T) {
	for _, s := range []string{"told", "given up", "stopped", "halted", "crashed"} {
		b := booted(t, east(), "")
		costs(t, "Begin", b.d, 5, func() { b.beginIs(t, 3, 0, 1) })
		safeLogIs(t, b.d, 1, 3, 0, 3)
		done(t, b.d.Arm(0))
		still(t, s, b.d, func() {
			switch s {
			case "told":
				b.ends(t, look, 1, 9)
				b.reportIs(t, 1, 3, 0, api.Succeeded, each(3, 9))
			case "given up":
				b.takeIs(t, reply(look, 1, 1, 9, api.OK), nil)
				b.takeIs(t, reply(look, 2, 1, 9, api.ErrFull), nil)
				for range 6 {
					_, e := b.Tick()
					done(t, e)
				}
				b.reportIs(t, 1, 3, 0, api.Incomplete, []int{-1, 9, -1}, 0, 2)
			case "stopped":
				b.takeIs(t, reply(look, 0, 1, 9, api.OK), nil)
				b.stopIs(t, nil)
				b.reportIs(t, 1, 3, 0, api.Incomplete, []int{9, -1, -1}, 1, 2)
			}
		})
		if s == "crashed" {
			b.d.Crash(0, 0)
		}
		done(t, b.d.Arm(-1))
		b.again(t, nil)
		safeLogIs(t, b.d, 1, 3, 0, 3)
		b.beginIs(t, 2, 4, 2)
	}
}

// There is no room: nothing of the job is left, its number is the next one's, and the steward stays up, with the report that it had.
func TestBeginWithoutRoom(t *testing.T) {
	for _, s := range idle() {
		for _, kind := range []int{1, 2, 3} {
			version := []int{1: 7, 2: 4, 3: 0}[kind]
			what := fmt.Sprintf("%s: Begin(%d, %d)", s.name, kind, version)
			size := len(logText(s.next, kind, version, 0))
			b := s.at(t, east())
			fill(t, b, size-1)
			r, f := b.Report()
			dump := b.d.Dump()
			for range 3 {
				costs(t, what, b.d, 2, func() { b.beginFails(t, kind, version, api.ErrFull) })
				is(t, what+": Up", b.Up(), true)
				is(t, what+": Busy", b.Busy(), false)
				same(t, what+": the disk", b.d.Dump(), dump)
				again, e := b.Report()
				is(t, what+": Report", e, f)
				same(t, what+": Report", again, r)
				for _, x := range [][2]int{{0, 7}, {1, 0}, {3, 5}} {
					b.beginFails(t, x[0], x[1], map[bool]api.Errno{true: api.ErrJob, false: api.ErrVersion}[x[0] == 0])
				}
				b.tickIs(t, nil)
				list, e := b.Stop()
				notSent(t, what+": Stop", list, e, api.ErrIdle)
			}
			// A byte more is enough.
			done(t, b.d.Remove("filler"))
			fill(t, b, size)
			costs(t, what, b.d, 5, func() { b.beginIs(t, kind, version, s.next) })
			outcome := 0
			if kind == 3 {
				outcome = 3
			}
			logIs(t, b.d, s.next, kind, version, outcome)
		}
	}
}

// fill leaves so many bytes of room on a steward's disk.
func fill(t *testing.T, b *bench, room int) {
	t.Helper()
	put(t, b.d, "filler", string(make([]byte, b.d.Capacity()-b.d.Used()-room)))
	done(t, b.d.Sync("filler"), b.d.SyncDir(""))
}

// Behind a Begin without room, whatever crashes: the log is as it was, and so is the next number.
func TestCrashBehindABeginWithoutRoom(t *testing.T) {
	for _, s := range idle() {
		for keep := range 4 {
			for _, halt := range []bool{false, true} {
				b := s.at(t, east())
				fill(t, b, 10)
				b.beginFails(t, 1, 7, api.ErrFull)
				done(t, b.Halt())
				if !halt {
					b.d.Crash(keep, 99)
				}
				b.bootIs(t, nil)
				is(t, s.name+": job.new", there(b.d, "job.new"), false)
				done(t, b.d.Remove("filler"))
				b.beginIs(t, 1, 7, s.next)
				logIs(t, b.d, s.next, 1, 7, 0)
			}
		}
	}
}

// There is no room, and the disk goes down ahead of taking away what is left: the steward goes down with it.
func TestBeginWithoutRoomAndPower(t *testing.T) {
	for _, s := range idle() {
		for fuse := range 3 {
			for keep := range 3 {
				b := s.at(t, east())
				fill(t, b, 10)
				done(t, b.d.Arm(fuse))
				want := []api.Errno{api.ErrDown, api.ErrDown, api.ErrFull}[fuse]
				costs(t, s.name+": Begin", b.d, fuse, func() { b.beginFails(t, 1, 7, want) })
				is(t, s.name+": Up", b.Up(), want == api.ErrFull)
				is(t, s.name+": Down", b.d.Down(), want == api.ErrDown)
				if fuse < 2 {
					b.isOff(t)
				}
				b.Halt()
				b.d.Crash(keep, 99)
				b.bootIs(t, nil)
				is(t, s.name+": job.new", there(b.d, "job.new"), false)
				done(t, b.d.Remove("filler"))
				b.beginIs(t, 1, 7, s.next)
			}
		}
	}
}
