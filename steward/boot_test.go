package steward

import (
	"fmt"
	"testing"

	"granary/api"
	"granary/disk"
)

// P20.3

// A steward that is up is not brought up, and is moved by that in nothing.
func TestBootTwice(t *testing.T) {
	for _, s := range stations() {
		b := s.at(t, east())
		done(t, b.d.Create("job.new"))
		still(t, s.name, b.d, func() {
			for range 2 {
				list, e := b.Boot()
				notSent(t, s.name+": Boot again", list, e, api.ErrOn)
			}
		})
		done(t, b.d.Remove("job.new"), b.d.SyncDir(""))
		s.unmoved(t, "behind a second Boot", b)
	}
	b := booted(t, east(), "")
	down(t, b.d)
	list, e := b.Boot()
	notSent(t, "Boot again, the disk is down", list, e, api.ErrOn)
}

// Without a log nothing is sent, and nothing is done.
func TestBootWithoutALog(t *testing.T) {
	for _, c := range []api.Cluster{east(), many(1, 1, 1, 1), many(16, 2, 3, 50)} {
		for _, room := range []int{0, 62, roomy} {
			b := over(t, c, fresh(t, room))
			still(t, "Boot", b.d, func() { b.bootIs(t, nil) })
		}
		b := booted(t, c, "")
		b.beginIs(t, 1, 7, 1)
	}
}

// What is taken back behind a Boot with each log that may be, and which number comes next.
func TestBootWithALog(t *testing.T) {
	for _, c := range []api.Cluster{east(), many(1, 1, 1, 1), many(16, 2, 3, 50)} {
		for _, number := range []int{1, 2, 10, most - 1} {
			for _, kind := range []int{1, 2, 3} {
				for _, version := range []int{0, 1, 7, last} {
					for outcome := range 4 {
						if (kind == 3) != (version == 0) || kind == 3 && outcome != 3 {
							continue
						}
						bootWithALog(t, c, number, kind, version, outcome)
					}
				}
			}
		}
	}
}

func bootWithALog(t *testing.T, c api.Cluster, number, kind, version, outcome int) {
	t.Helper()
	d := fresh(t, 100) // it has no room for another log
	put(t, d, "job", logText(number, kind, version, outcome))
	b := over(t, c, d)
	var want []api.Msg
	if outcome == 0 {
		want = messages(back, b.n, number, 0)
	}
	still(t, "Boot", d, func() { b.bootIs(t, want) })
	still(t, "Boot behind Halt", d, func() { b.again(t, want) })
	other := over(t, c, copied(t, d))
	other.bootIs(t, want)
	b = booted(t, c, logText(number, kind, version, outcome))
	if outcome == 0 {
		b.beginFails(t, 3, 0, api.ErrBusy)
		b.ends(t, back, number, 5)
		b.reportIs(t, number, kind, version, api.Restored, each(b.n, 5))
		safeLogIs(t, b.d, number, kind, version, 2)
	}
	b.beginIs(t, 2, 9, number+1)
	safeLogIs(t, b.d, number+1, 2, 9, 0)
}

// What goes back goes on as a phase back does: it is sent again, and given up.
func TestBootGoesBackToTheEnd(t *testing.T) {
	b := booted(t, east(), logText(5, 1, 7, 0))
	for tick := 1; tick <= 5; tick++ {
		var want []api.Msg
		if tick%2 == 0 {
			want = messages(back, 3, 5, 0)
		}
		costs(t, "Tick", b.d, 0, func() { b.tickIs(t, want) })
	}
	costs(t, "the last Tick", b.d, 5, func() { b.tickIs(t, nil) })
	b.reportIs(t, 5, 1, 7, api.Incomplete, each(3, -1), 0, 1, 2)
	safeLogIs(t, b.d, 5, 1, 7, 3)
	b.again(t, nil)
	b.beginIs(t, 1, 7, 6)
}

// A directory in the log's place, empty or not.
func TestBootWithADirectory(t *testing.T) {
	for _, filled := range []bool{false, true} {
		for _, left := range []bool{false, true} {
			d := fresh(t, roomy)
			done(t, d.Mkdir("job"))
			if filled {
				put(t, d, "job/number", "1")
			}
			if left {
				put(t, d, "job.new", "gran")
			}
			b := over(t, east(), d)
			still(t, "Boot", d, func() { b.bootFails(t, api.ErrKind) })
		}
	}
}

// What is left of a write goes, whatever it is, but for a directory that is not empty.
func TestBootTakesAwayWhatIsLeft(t *testing.T) {
	for _, log := range []string{"", logText(5, 1, 7, 0), logText(5, 2, 7, 2), logText(5, 3, 0, 3)} {
		for what, lay := range map[string]func(d *disk.Disk){
			"an empty file":      func(d *disk.Disk) { put(t, d, "job.new", "") },
			"a part of a log":    func(d *disk.Disk) { put(t, d, "job.new", "granary job 1\nnum") },
			"a whole log":        func(d *disk.Disk) { put(t, d, "job.new", logText(6, 1, 7, 0)) },
			"an empty directory": func(d *disk.Disk) { done(t, d.Mkdir("job.new")) },
		} {
			for _, isSafe := range []bool{false, true} {
				d := fresh(t, roomy)
				if log != "" {
					put(t, d, "job", log)
					safe(t, d)
				}
				lay(d)
				if isSafe {
					safe(t, d)
				}
				b := over(t, east(), d)
				var want []api.Msg
				if log == logText(5, 1, 7, 0) {
					want = messages(back, 3, 5, 0)
				}
				costs(t, what+": Boot", d, 2, func() { b.bootIs(t, want) })
				is(t, what+": job.new", there(d, "job.new"), false)
				is(t, what+": job", there(d, "job"), log != "")
				still(t, what+": Boot again", d, func() { b.again(t, want) })
				done(t, b.Halt())
				d.Crash(0, 0)
				is(t, what+": job.new behind a crash", there(d, "job.new"), false)
				still(t, what+": Boot behind a crash", d, func() { b.bootIs(t, want) })
			}
		}
	}
}

func TestBootWithAFilledDirectory(t *testing.T) {
	for _, log := range []string{"", logText(5, 1, 7, 0)} {
		d := fresh(t, roomy)
		if log != "" {
			put(t, d, "job", log)
		}
		done(t, d.Mkdir("job.new"), d.Create("job.new/x"))
		b := over(t, east(), d)
		still(t, "Boot", d, func() { b.bootFails(t, api.ErrFilled) })
		done(t, d.Remove("job.new/x"))
		costs(t, "Boot", d, 2, func() {
			_, e := b.Boot()
			is(t, "Boot", e, api.OK)
		})
	}
}

// A log that is refused: what is left of a write stays, and a Boot behind mending is as the first one.
func TestBootBehindAWrongLog(t *testing.T) {
	for text, want := range map[string]api.Errno{
		"":                                    api.ErrForm,
		logText(5, 1, 7, 0) + "x":             api.ErrForm,
		logText(5, 1, 7, 0)[:62] + "\x00":     api.ErrForm,
		"granary job 1\n":                     api.ErrForm,
		logText(5, 1, 7, 0)[:50] + sumLine(0): api.ErrSum,
		logText(5, 4, 7, 0):                   api.ErrField,
	} {
		for _, left := range []bool{false, true} {
			d := fresh(t, roomy)
			put(t, d, "job", text)
			if left {
				put(t, d, "job.new", "gran")
			}
			b := over(t, east(), d)
			for range 2 {
				still(t, "Boot", d, func() { b.bootFails(t, want) })
			}
			replaced(t, d, "job", logText(5, 1, 7, 0))
			b.bootIs(t, messages(back, 3, 5, 0))
			is(t, "job.new", there(d, "job.new"), false)
		}
	}
}

// sumLine is a log's last line.
func sumLine(sum int) string { return fmt.Sprintf("sum %08x\n", sum) }

// A disk that is down is told ahead of all; one that is armed goes down at an act alone.
func TestBootOnADiskThatIsDownOrArmed(t *testing.T) {
	for what, d := range disks(t) {
		if !d.Down() {
			down(t, d)
		}
		b := over(t, east(), d)
		still(t, what, d, func() { b.bootFails(t, api.ErrDown) })
	}
	for _, log := range []string{"", logText(5, 1, 7, 2)} {
		d := fresh(t, roomy)
		if log != "" {
			put(t, d, "job", log)
		}
		done(t, d.Arm(0))
		over(t, east(), d).bootIs(t, nil)
		is(t, "Down", d.Down(), false)
	}
	for _, x := range []struct {
		log  string
		want api.Errno
	}{{"", api.ErrDown}, {logText(5, 1, 7, 0), api.ErrDown}, {"x", api.ErrForm}, {logText(5, 3, 0, 1), api.ErrField}} {
		d := fresh(t, roomy)
		if x.log != "" {
			put(t, d, "job", x.log)
		}
		put(t, d, "job.new", "gran")
		done(t, d.Arm(0))
		over(t, east(), d).bootFails(t, x.want)
		is(t, "Down", d.Down(), x.want == api.ErrDown)
		is(t, "job.new", len(d.Dump()) > 0 && d.Dump()[len(d.Dump())-1].Path == "job.new", true)
	}
}

// Other files make no difference, nor does a disk with more on it than it has room for.
func TestBootBesideOtherFiles(t *testing.T) {
	d := fresh(t, 200)
	for _, name := range []string{"job.old", "jobs", "job-1", "job.new2", "log", "a", "z"} {
		put(t, d, name, "number 1\n")
	}
	done(t, d.Mkdir("dir"), d.Create("dir/job"), d.Create("dir/job.new"))
	b := over(t, east(), d)
	still(t, "Boot", d, func() { b.bootIs(t, nil) })
	done(t, b.Halt())
	put(t, d, "job", logText(5, 2, 7, 0))
	put(t, d, "job.new", "x")
	costs(t, "Boot", d, 2, func() { b.bootIs(t, messages(back, 3, 5, 0)) })
	done(t, b.Halt())
	safe(t, d)
	put(t, d, "more", string(make([]byte, 200-d.Used())))
	safe(t, d)
	done(t, d.Remove("more"), d.Create("other"), d.Append("other", "some"), d.Sync("other"))
	// The removal is lost, and the other file is there: that is more than there is room for.
	d.Crash(0, 0)
	d2 := copied(t, d)
	still(t, "Boot", d, func() { b.bootIs(t, messages(back, 3, 5, 0)) })
	over(t, east(), d2).bootIs(t, messages(back, 3, 5, 0))
}
