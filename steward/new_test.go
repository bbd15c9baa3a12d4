package steward

import (
	"testing"

	"granary/api"
	"granary/disk"
	"granary/ring"
)

// P20.1, P20.4

// wrongClusters are some that are not valid, by the error of each.
func wrongClusters() map[api.Errno]api.Cluster {
	list := map[api.Errno]api.Cluster{api.ErrNodes: settings(2, 3, 50), api.ErrName: {}}
	for e, change := range map[api.Errno]func(c *api.Cluster){
		api.ErrSetting: func(c *api.Cluster) { c.Resend = 0 },
		api.ErrParts:   func(c *api.Cluster) { c.Nodes[1].Parts = []int{2} },
		api.ErrCopies:  func(c *api.Cluster) { c.Replicas = 4 },
		api.ErrBig: func(c *api.Cluster) {
			c.Chunks, c.Nodes[0].Parts, c.Nodes[1].Parts, c.Nodes[2].Parts = 16, upto(17), nil, []int{17}
		},
	} {
		c := east()
		change(&c)
		list[e] = c
	}
	return list
}

func TestNewIsRefused(t *testing.T) {
	s, e := New(east(), nil)
	is(t, "no disk", e, api.ErrNil)
	is(t, "no disk: a steward", s != nil, false)
	for want, c := range wrongClusters() {
		is(t, "the cluster", ring.Check(c), want)
		d := fresh(t, roomy)
		still(t, "New", d, func() {
			s, e := New(c, d)
			is(t, "New", e, want)
			is(t, "New: a steward", s != nil, false)
		})
		s, e := New(c, nil)
		is(t, "no disk, and a wrong cluster", e, api.ErrNil)
		is(t, "no disk, and a wrong cluster: a steward", s != nil, false)
	}
}

// The settings that the controller goes by, at their ends and past them.
func TestNewAtTheSettingsEnds(t *testing.T) {
	for _, x := range []struct {
		resend, limit, patience int
		want                    api.Errno
	}{
		{1, 1, 1, api.OK}, {1024, 64, 65536, api.OK},
		{0, 1, 1, api.ErrSetting}, {1, 0, 1, api.ErrSetting}, {1, 1, 0, api.ErrSetting},
		{1025, 64, 65536, api.ErrSetting}, {1024, 65, 65536, api.ErrSetting}, {1024, 64, 65537, api.ErrSetting},
	} {
		s, e := New(many(2, x.resend, x.limit, x.patience), fresh(t, 0))
		is(t, "New", e, x.want)
		is(t, "New: a steward", s != nil, x.want == api.OK)
	}
}

// disks are some on which all sorts of things lie; New does nothing on any of them, nor does a steward that is not up.
func disks(t *testing.T) map[string]*disk.Disk {
	t.Helper()
	list := map[string]*disk.Disk{}
	for what, lay := range map[string]func(d *disk.Disk){
		"empty":            func(d *disk.Disk) {},
		"an open log":      func(d *disk.Disk) { put(t, d, "job", logText(3, 1, 7, 0)) },
		"a log and litter": func(d *disk.Disk) { put(t, d, "job", logText(3, 1, 7, 1)); put(t, d, "job.new", "gran") },
		"a wrong log":      func(d *disk.Disk) { put(t, d, "job", "granary") },
		"directories":      func(d *disk.Disk) { done(t, d.Mkdir("job"), d.Mkdir("job.new")) },
		"armed":            func(d *disk.Disk) { put(t, d, "job.new", ""); done(t, d.Arm(0)) },
		"down":             func(d *disk.Disk) { put(t, d, "job.new", ""); down(t, d) },
	} {
		list[what] = fresh(t, roomy)
		lay(list[what])
	}
	return list
}

func TestNewDoesNothing(t *testing.T) {
	for what, d := range disks(t) {
		still(t, what, d, func() {
			b := over(t, east(), d)
			is(t, what+": Up", b.Up(), false)
			b.isOff(t)
		})
	}
}

// A steward that New did not make is answered as one that is not there.
func TestNoSteward(t *testing.T) {
	for what, s := range map[string]*Steward{"nil": nil, "not made": new(Steward)} {
		b := &bench{s, east(), fresh(t, roomy), 3}
		for range 2 {
			b.refuses(t, api.ErrNil)
			list, e := b.Boot()
			notSent(t, what+": Boot", list, e, api.ErrNil)
		}
	}
}

// A disk that disk.New did not make is there, but answers nothing.
func TestNoDisk(t *testing.T) {
	b := over(t, east(), new(disk.Disk))
	b.bootFails(t, api.ErrNil)
}

// Behind Halt, from wherever it was, nothing is left of what it held.
func TestHalt(t *testing.T) {
	for _, s := range stations() {
		b := s.at(t, east())
		still(t, s.name, b.d, func() {
			is(t, s.name+": Up", b.Up(), true)
			is(t, s.name+": Halt", b.Halt(), api.OK)
			b.isOff(t)
			is(t, s.name+": Halt again", b.Halt(), api.ErrOff)
		})
		var want []api.Msg
		if s.phase != "" && s.kind != api.JobLook {
			want = messages(back, b.n, s.job, 0)
		}
		still(t, s.name+": Boot", b.d, func() { b.bootIs(t, want) })
	}
}

// A halt is not an act: a disk that is armed with 0 stays up, and one that is down makes no difference.
func TestHaltIsNoAct(t *testing.T) {
	for _, s := range stations() {
		b := s.at(t, east())
		done(t, b.d.Arm(0), b.Halt())
		is(t, s.name+": Down", b.d.Down(), false)
		b = s.at(t, east())
		down(t, b.d)
		is(t, s.name+": Up", b.Up(), true)
		done(t, b.Halt())
		b.bootFails(t, api.ErrDown)
	}
}

// Behind a loss of power in each call that writes it is not up, and nothing of the job is left in its memory.
func TestLossOfPower(t *testing.T) {
	for what, call := range map[string]func(b *bench) ([]api.Msg, api.Errno){
		"Begin": func(b *bench) ([]api.Msg, api.Errno) { done(t, b.d.Arm(2)); return b.Begin(1, 7) },
		"Take": func(b *bench) ([]api.Msg, api.Errno) {
			b.beginIs(t, 2, 4, 1)
			done(t, b.d.Arm(2))
			return b.answered(t, swap, 1, 4)
		},
		"Tick": func(b *bench) ([]api.Msg, api.Errno) {
			b.beginIs(t, 2, 4, 1)
			b.stopIs(t, messages(back, b.n, 1, 0))
			for range 5 {
				b.Tick()
			}
			done(t, b.d.Arm(2))
			return b.Tick()
		},
	} {
		b := booted(t, east(), "")
		list, e := call(b)
		notSent(t, what, list, e, api.ErrDown)
		b.isOff(t)
		b.bootFails(t, api.ErrDown)
		b.d.Crash(0, 0)
		b.isOff(t)
		list, e = b.Boot()
		is(t, what+": Boot", e, api.OK)
		is(t, what+": messages", len(list) > 0, what != "Begin")
	}
}

// Two stewards in turns: what one does moves the other in nothing, at whatever places the two are.
func TestTwoStewards(t *testing.T) {
	for _, one := range stations() {
		for _, other := range stations() {
			first, second := one.at(t, east()), other.at(t, east())
			first.Take(reply(one.phase, 0, one.job, one.version, api.OK))
			first.Take(reply(one.phase, 1, one.job, one.version, api.ErrFull))
			first.story(t)
			other.unmoved(t, "behind another's doings", second)
		}
	}
}

// Two on two disks, step by step in turns.
func TestTwoStewardsStepByStep(t *testing.T) {
	one, other := booted(t, east(), ""), booted(t, east(), "")
	one.beginIs(t, 1, 7, 1)
	other.beginIs(t, 2, 4, 1)
	safeLogIs(t, one.d, 1, 1, 7, 0)
	safeLogIs(t, other.d, 1, 2, 4, 0)
	list, e := one.answered(t, fetch, 1, 7)
	sent(t, "the last Fetched", list, e, messages(swap, 3, 1, 7))
	other.stopIs(t, messages(back, 3, 1, 0))
	one.ends(t, swap, 1, 7)
	safeLogIs(t, one.d, 1, 1, 7, 1)
	safeLogIs(t, other.d, 1, 2, 4, 0)
	other.noReport(t, api.ErrIdle)
	done(t, one.d.Arm(0))
	one.beginFails(t, 1, 8, api.ErrDown)
	other.ends(t, back, 1, 9)
	is(t, "the other is up", other.Up(), true)
	safeLogIs(t, other.d, 1, 2, 4, 2)
	one.d.Crash(0, 0)
	one.bootIs(t, nil)
	one.beginIs(t, 3, 0, 2)
	other.beginIs(t, 1, 8, 2)
	safeLogIs(t, one.d, 2, 3, 0, 3)
	safeLogIs(t, other.d, 2, 1, 8, 0)
}
