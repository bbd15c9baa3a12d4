package steward

import (
	"fmt"
	"slices"
	"testing"

	"granary/api"
	"granary/disk"
	"granary/joblog"
)

// P20.2, P20.8, P20.9: the acts of each call, in their order; the disk goes down at each of them, and anything may survive.

// deed is a call, what there is ahead of it, and its acts done by hand.
type deed struct {
	name  string
	ready func(t *testing.T) *bench
	call  func(b *bench) ([]api.Msg, api.Errno)
	acts  func(d *disk.Disk) api.Errno
	out   []api.Msg // what goes out where nothing crashes
	stays bool      // it stays up if there is no room
}

// first does acts till one is refused.
func first(acts ...func() api.Errno) api.Errno {
	for _, act := range acts {
		if e := act(); e != api.OK {
			return e
		}
	}
	return api.OK
}

// writing are the acts by which a log is written.
func writing(number, kind, version, outcome int) func(d *disk.Disk) api.Errno {
	return func(d *disk.Disk) api.Errno {
		e := first(
			func() api.Errno { return d.Create("job.new") },
			func() api.Errno { return d.Append("job.new", logText(number, kind, version, outcome)) },
			func() api.Errno { return d.Sync("job.new") },
			func() api.Errno { return d.Rename("job.new", "job") },
			func() api.Errno { return d.SyncDir("") },
		)
		if e == api.ErrFull {
			if e := d.Remove("job.new"); e != api.OK {
				return e
			}
		}
		return e
	}
}

// sweeping are the acts of a Boot behind a write that was broken off.
func sweeping(d *disk.Disk) api.Errno {
	return first(
		func() api.Errno { return d.Remove("job.new") },
		func() api.Errno { return d.SyncDir("") },
	)
}

func nothing(*disk.Disk) api.Errno { return api.OK }

// besides puts other files onto a disk, not safe.
func besides(t *testing.T, d *disk.Disk) {
	t.Helper()
	put(t, d, "other", "not safe")
	done(t, d.Mkdir("dir"), d.Create("dir/job"))
}

// beginnings are Begins of each kind, at each place where no job is going on, with and without room, and with other files that are not safe.
func beginnings() []deed {
	var list []deed
	for _, s := range idle() {
		for _, x := range [][3]int{{1, 7, 0}, {2, 4, 0}, {3, 0, 3}} {
			for _, how := range []string{"alone", "beside others", "without room"} {
				list = append(list, deed{
					name: fmt.Sprintf("%s: Begin(%d, %d) %s", s.name, x[0], x[1], how),
					ready: func(t *testing.T) *bench {
						b := s.at(t, east())
						switch how {
						case "beside others":
							besides(t, b.d)
						case "without room":
							fill(t, b, 40)
						}
						return b
					},
					call:  func(b *bench) ([]api.Msg, api.Errno) { return b.Begin(x[0], x[1]) },
					acts:  writing(s.next, x[0], x[1], x[2]),
					out:   messages(firstPhase(x[0]), 3, s.next, x[1]),
					stays: true,
				})
			}
		}
	}
	return list
}

// ends are Takes and Ticks by which a job ends, likewise.
func ends() []deed {
	var list []deed
	for _, x := range endings() {
		for _, how := range []string{"alone", "beside others", "without room"} {
			list = append(list, deed{
				name: x.name + " " + how,
				ready: func(t *testing.T) *bench {
					b := x.ready(t)
					switch how {
					case "beside others":
						besides(t, b.d)
					case "without room":
						fill(t, b, 40)
					}
					return b
				},
				call: x.call,
				acts: writing(x.job, x.kind, x.version, x.outcome),
			})
		}
	}
	return list
}

// boots are Boots with each log, and with what may be left of a write, safe or not.
func boots() []deed {
	var list []deed
	for log, out := range map[string][]api.Msg{
		"":                  nil,
		logText(5, 1, 7, 0): messages(back, 3, 5, 0),
		logText(5, 2, 4, 0): messages(back, 3, 5, 0),
		logText(5, 1, 7, 1): nil,
		logText(5, 3, 0, 3): nil,
	} {
		for _, left := range []string{"nothing", "", "granary job 1\nnum", logText(6, 1, 8, 0), "a directory"} {
			for _, isSafe := range []bool{false, true} {
				list = append(list, deed{
					name: fmt.Sprintf("Boot with the log %q, and %q left (safe: %v)", log, left, isSafe),
					ready: func(t *testing.T) *bench {
						d := fresh(t, roomy)
						if log != "" {
							put(t, d, "job", log)
						}
						safe(t, d)
						switch left {
						case "nothing":
						case "a directory":
							done(t, d.Mkdir("job.new"))
						default:
							put(t, d, "job.new", left)
						}
						if isSafe {
							safe(t, d)
						}
						return over(t, east(), d)
					},
					call: func(b *bench) ([]api.Msg, api.Errno) { return b.Boot() },
					acts: map[bool]func(d *disk.Disk) api.Errno{true: nothing, false: sweeping}[left == "nothing"],
					out:  out,
				})
			}
		}
	}
	slices.SortFunc(list, func(a, b deed) int { return len(a.name) - len(b.name) })
	return list
}

// idlings are calls that do no act.
func idlings() []deed {
	var list []deed
	add := func(s station, name string, call func(b *bench) ([]api.Msg, api.Errno), out []api.Msg) {
		list = append(list, deed{
			name:  s.name + ": " + name,
			ready: func(t *testing.T) *bench { return s.at(t, east()) },
			call:  call,
			acts:  nothing,
			out:   out,
		})
	}
	for _, s := range stations() {
		add(s, "Tick", ticks, nil)
		add(s, "Take", func(b *bench) ([]api.Msg, api.Errno) { return b.Take(s.answerOrNone(1)) }, nil)
		switch s.phase {
		case fetch, swap:
			add(s, "Stop", func(b *bench) ([]api.Msg, api.Errno) { return b.Stop() }, messages(back, 3, s.job, 0))
			add(s, "Take of an error", func(b *bench) ([]api.Msg, api.Errno) { return b.Take(s.answer(1, api.ErrFull)) }, messages(back, 3, s.job, 0))
		case back, look:
			add(s, "Stop", func(b *bench) ([]api.Msg, api.Errno) { return b.Stop() }, nil)
			add(s, "Take of an error", func(b *bench) ([]api.Msg, api.Errno) { return b.Take(s.answer(1, api.ErrFull)) }, nil)
		}
	}
	return list
}

// answerOrNone is a node's answer at the station, or some message if no job is going on there.
func (s station) answerOrNone(node int) api.Msg {
	if s.phase == "" {
		return reply(swap, node, 1, 7, api.OK)
	}
	return s.answer(node, api.OK)
}

// alike holds that two disks have done the same.
func alike(t *testing.T, what string, d, twin *disk.Disk) {
	t.Helper()
	is(t, what+": acts", d.Acts(), twin.Acts())
	is(t, what+": pending", d.Pending(), twin.Pending())
	is(t, what+": Down", d.Down(), twin.Down())
	is(t, what+": Used", d.Used(), twin.Used())
	same(t, what+": the disk", d.Dump(), twin.Dump())
}

// broken lets a deed be broken off behind any number of acts, with anything surviving, and holds it against its acts done by hand; tell is told of each way, behind the crash and ahead of the Boot.
func (x deed) broken(t *testing.T, tell func(how string, b *bench, went bool)) {
	t.Helper()
	b := x.ready(t)
	before := b.d.Acts()
	x.acts(b.d)
	count := b.d.Acts() - before
	for fuse := range count + 1 {
		for keep, pending := 0, 0; keep <= pending; keep++ {
			for _, torn := range []int{0, 1, 20, 9999} {
				b, twin := x.ready(t), x.ready(t).d
				done(t, b.d.Arm(fuse), twin.Arm(fuse))
				list, e := x.call(b)
				want := x.acts(twin)
				how := fmt.Sprintf("%s: %d of %d acts, %d changes and %d bytes survive", x.name, fuse, count, keep, torn)
				alike(t, how, b.d, twin)
				if want == api.OK {
					sent(t, how, list, e, x.out)
				} else {
					notSent(t, how, list, e, want)
				}
				is(t, how+": Up", b.Up(), want == api.OK || want == api.ErrFull && x.stays)
				if !b.Up() {
					b.isOff(t)
				}
				pending = twin.Pending()
				b.Halt()
				is(t, how+": Crash", b.d.Crash(keep, torn), twin.Crash(keep, torn))
				alike(t, how+", behind the crash", b.d, twin)
				tell(how, b, want == api.OK)
				if t.Failed() {
					t.FailNow()
				}
			}
		}
	}
}

// bootOfWhatIsThere boots a steward and holds it against a plain reading of what its disk has; it answers what the log says.
func bootOfWhatIsThere(t *testing.T, how string, b *bench) joblog.Entry {
	t.Helper()
	var j joblog.Entry
	if text, e := b.d.Read("job", 0, mostInt); e == api.OK {
		if j, e = plainly(text); e != api.OK {
			t.Fatalf("%s: the log %q: %d", how, text, e)
		}
	}
	var want []api.Msg
	if j.Number > 0 && j.Outcome == 0 {
		want = messages(back, b.n, j.Number, 0)
	}
	cost := 0
	if there(b.d, "job.new") {
		cost = 2
	}
	costs(t, how+": Boot", b.d, cost, func() { b.bootIs(t, want) })
	is(t, how+": job.new", there(b.d, "job.new"), false)
	return j
}

// goesOn holds that a steward that is up goes on with the number that is due, through a whole job.
func goesOn(t *testing.T, b *bench, j joblog.Entry) {
	t.Helper()
	if there(b.d, "filler") {
		done(t, b.d.Remove("filler"))
	}
	if b.Busy() {
		b.ends(t, back, j.Number, 9)
		logIs(t, b.d, j.Number, j.Kind, j.Version, 2)
	}
	b.beginIs(t, 2, 3, j.Number+1)
	logIs(t, b.d, j.Number+1, 2, 3, 0)
	b.ends(t, swap, j.Number+1, 3)
	logIs(t, b.d, j.Number+1, 2, 3, 1)
	b.reportIs(t, j.Number+1, 2, 3, api.Succeeded, each(3, 3))
}

// behindBoth boots the same steward and a new one over a copy of its disk: both answer the same, and go on the same way.
func behindBoth(t *testing.T, how string, b *bench) joblog.Entry {
	t.Helper()
	other := over(t, b.c, copied(t, b.d))
	one, two := bootOfWhatIsThere(t, how, b), bootOfWhatIsThere(t, how+", a copy", other)
	is(t, how+": the log", two, one)
	goesOn(t, b, one)
	goesOn(t, other, two)
	same(t, how+": the disks", other.d.Dump(), b.d.Dump())
	return one
}

func TestBeginIsBrokenOff(t *testing.T) {
	for _, x := range beginnings() {
		ahead := logOf(t, x.ready(t).d)
		b := x.ready(t)
		x.acts(b.d)
		after := logOf(t, b.d)
		x.broken(t, func(how string, b *bench, went bool) {
			j := behindBoth(t, how, b)
			// The job's number is free, or it has been used up; it has where a message went out.
			if j != after && (went || j != ahead) {
				t.Errorf("%s: the log says %v, ahead %v", how, j, ahead)
			}
		})
	}
}

// logOf is what the log says.
func logOf(t *testing.T, d *disk.Disk) joblog.Entry {
	t.Helper()
	text, e := d.Read("job", 0, mostInt)
	if e == api.ErrNone {
		return joblog.Entry{}
	}
	j, e := plainly(text)
	done(t, e)
	return j
}

func TestEndIsBrokenOff(t *testing.T) {
	for _, x := range ends() {
		ahead := logOf(t, x.ready(t).d)
		b := x.ready(t)
		x.acts(b.d)
		after := logOf(t, b.d)
		x.broken(t, func(how string, b *bench, went bool) {
			j := behindBoth(t, how, b)
			// What was told stays; what was not is taken back, or was written.
			if j != after && (went || j != ahead) {
				t.Errorf("%s: the log says %v, ahead %v", how, j, ahead)
			}
		})
	}
}

func TestBootIsBrokenOff(t *testing.T) {
	for _, x := range boots() {
		ahead := logOf(t, x.ready(t).d)
		x.broken(t, func(how string, b *bench, _ bool) {
			if there(b.d, "job.new") { // and the next one is, too
				done(t, b.d.Arm(1))
				b.bootFails(t, api.ErrDown)
				b.d.Crash(0, 0)
				is(t, how+": job.new", there(b.d, "job.new"), true)
			}
			is(t, how, behindBoth(t, how, b), ahead)
		})
	}
}

// A Boot behind a Begin or an end that was broken off is itself broken off, at each of its acts, over and over.
func TestBootIsBrokenOffBehindAWrite(t *testing.T) {
	for i, x := range append(beginnings(), ends()...) {
		lot := dice(i)
		x.broken(t, func(how string, b *bench, _ bool) {
			ahead := logOf(t, b.d)
			for range 3 {
				fuse, armed := lot.roll(2), there(b.d, "job.new")
				done(t, b.d.Arm(fuse))
				_, e := b.Boot()
				is(t, how+": Boot", e, map[bool]api.Errno{true: api.ErrDown, false: api.OK}[armed])
				b.Halt()
				b.d.Crash(lot.roll(3), lot.roll(9))
			}
			is(t, how, behindBoth(t, how, b), ahead)
		})
	}
}

// Calls that want no act go on, whatever the disk is armed with.
func TestCallsWithoutActs(t *testing.T) {
	for _, x := range idlings() {
		ahead := logOf(t, x.ready(t).d)
		x.broken(t, func(how string, b *bench, went bool) {
			is(t, how+": it went", went, true)
			is(t, how, behindBoth(t, how, b), ahead)
		})
	}
}

// A call that finds the disk down already, and wants an act, is refused; one that wants none is not.
func TestDiskIsDownAhead(t *testing.T) {
	for _, x := range append(beginnings(), ends()...) {
		b := x.ready(t)
		down(t, b.d)
		still(t, x.name, b.d, func() {
			list, e := x.call(b)
			notSent(t, x.name, list, e, api.ErrDown)
			b.isOff(t)
		})
	}
	for _, x := range idlings() {
		b := x.ready(t)
		down(t, b.d)
		still(t, x.name, b.d, func() {
			list, e := x.call(b)
			sent(t, x.name, list, e, x.out)
			is(t, x.name+": Up", b.Up(), true)
		})
	}
}

// Somebody else's job.new or job is in the way, or the disk has crashed: every call ends, and the next Boot is as it should be.
func TestSomebodyElse(t *testing.T) {
	for name, spoil := range map[string]func(d *disk.Disk){
		"a file job.new":      func(d *disk.Disk) { put(t, d, "job.new", "left") },
		"a directory job.new": func(d *disk.Disk) { done(t, d.Mkdir("job.new")) },
		"another log": func(d *disk.Disk) {
			if there(d, "filler") {
				done(t, d.Remove("filler"))
			}
			replaced(t, d, "job", logText(8, 2, 4, 0))
		},
		"no log": func(d *disk.Disk) {
			if there(d, "job") {
				done(t, d.Remove("job"))
			}
		},
		"a crash": func(d *disk.Disk) { d.Crash(0, 0) },
	} {
		for _, x := range append(beginnings(), ends()...) {
			b := x.ready(t)
			spoil(b.d)
			x.call(b)
			b.Tick()
			b.Take(reply(back, 0, 1, 7, api.OK))
			b.Stop()
			b.Begin(1, 7)
			b.Report()
			b.Busy()
			b.Halt()
			bootOfWhatIsThere(t, x.name+": "+name, b)
		}
	}
}
