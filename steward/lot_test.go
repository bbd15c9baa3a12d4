package steward

import (
	"fmt"
	"slices"
	"strings"
	"testing"

	"granary/api"
	"granary/control"
	"granary/disk"
)

// P20.1 to P20.9: calls drawn by lot are held against the plain reading, call by call, and so are the two disks.

type pair struct {
	b     *bench
	r     *reading
	asked []api.Msg // what went out last
	tale  []string
}

func both(t *testing.T, lot *dice) *pair {
	t.Helper()
	c := many(oneOf(lot, 1, 2, 3), oneOf(lot, 1, 2), oneOf(lot, 1, 2, 3), oneOf(lot, 1, 3, 6, 20))
	room := oneOf(lot, 60, 63, 100, 126, 128, 200, roomy, roomy, roomy)
	return &pair{b: over(t, c, fresh(t, room)), r: &reading{c: c, d: fresh(t, room)}}
}

// agree holds that both answer the same, and that both are at the same place.
func (p *pair) agree(t *testing.T, what string, list []api.Msg, e api.Errno, want []api.Msg, f api.Errno) {
	t.Helper()
	p.tale = append(p.tale, fmt.Sprintf("%s: %d messages, %d", what, len(want), f))
	if !slices.Equal(list, want) || e != f {
		t.Errorf("%s: %+v, %d, want %+v, %d", what, list, e, want, f)
	}
	if len(want) > 0 {
		p.asked = want
	}
	is(t, what+": Up", p.b.Up(), p.r.up)
	is(t, what+": Busy", p.b.Busy(), p.r.busy())
	x, e := p.b.Report()
	y, f := p.r.report()
	is(t, what+": Report", e, f)
	is(t, what+": Report", fmt.Sprint(x), fmt.Sprint(y))
	alike(t, what, p.b.d, p.r.d)
	if t.Failed() {
		t.Fatal(strings.Join(p.tale, "\n"))
	}
}

// drawn is a message: an answer to what went out last, mostly, and else one with a field of another value.
func (p *pair) drawn(lot *dice) api.Msg {
	if len(p.asked) == 0 || lot.roll(20) == 0 {
		return reply(oneOf(lot, fetch, swap, back, look), lot.roll(3), lot.roll(5), lot.roll(9), api.OK)
	}
	q := oneOf(lot, p.asked...)
	m := api.Msg{Kind: q.Kind + 1, From: q.To, To: 64, Id: q.Id, Epoch: q.Epoch, Seq: q.Seq, Version: q.Version}
	if q.Kind == api.MsgBack || q.Kind == api.MsgAsk {
		m.Version = lot.roll(9)
	}
	switch lot.roll(40) {
	case 0:
		m.Code = oneOf(lot, api.ErrAbsent, api.ErrFull, api.ErrStale)
	case 1:
		m.Id++
	case 2:
		m.From = oneOf(lot, -1, 5, 64)
	}
	return m
}

func (p *pair) call(t *testing.T, lot *dice) {
	t.Helper()
	x := lot.roll(100)
	if !p.r.up && lot.roll(4) == 0 { // else it would be down for most of the time
		x = 80
		if p.r.d.Down() {
			x = 92
		}
	}
	switch {
	case x < 12:
		kind, version := oneOf(lot, 1, 1, 2, 2, 2, 3, 3, 4), oneOf(lot, 1, 7, last, 0)
		if kind == 3 && lot.roll(5) > 0 {
			version = 0
		}
		want, f := p.r.begin(kind, version)
		list, e := p.b.Begin(kind, version)
		p.agree(t, fmt.Sprintf("Begin(%d, %d)", kind, version), list, e, want, f)
	case x < 62:
		m := p.drawn(lot)
		want, f := p.r.does(func(k *control.Control) ([]api.Msg, api.Errno) { return k.Take(m) })
		list, e := p.b.Take(m)
		p.agree(t, fmt.Sprintf("Take(%+v)", m), list, e, want, f)
	case x < 76:
		want, f := p.r.does(func(k *control.Control) ([]api.Msg, api.Errno) { return k.Tick() })
		list, e := p.b.Tick()
		p.agree(t, "Tick", list, e, want, f)
	case x < 78:
		want, f := p.r.does(func(k *control.Control) ([]api.Msg, api.Errno) { return k.Stop() })
		list, e := p.b.Stop()
		p.agree(t, "Stop", list, e, want, f)
	case x < 80:
		f := p.r.halt()
		p.agree(t, "Halt", nil, p.b.Halt(), nil, f)
	case x < 88:
		want, f := p.r.boot()
		list, e := p.b.Boot()
		p.agree(t, "Boot", list, e, want, f)
	case x < 92:
		p.ofTheDisk(t, lot)
	case x < 95:
		p.crash(t, lot)
	default:
		p.other(t, lot)
	}
}

// on does the same to both disks.
func (p *pair) on(t *testing.T, what string, do func(d *disk.Disk) api.Errno) {
	t.Helper()
	f := do(p.r.d)
	p.agree(t, what, nil, do(p.b.d), nil, f)
}

// ofTheDisk arms it, or not any more.
func (p *pair) ofTheDisk(t *testing.T, lot *dice) {
	t.Helper()
	fuse := oneOf(lot, -1, 0, 1, 2, 3, 4, 5, 6, 8)
	p.on(t, fmt.Sprintf("Arm(%d)", fuse), func(d *disk.Disk) api.Errno { return d.Arm(fuse) })
}

// crash lets the disk crash. A steward that is up must go down with it: what it would answer is free.
func (p *pair) crash(t *testing.T, lot *dice) {
	t.Helper()
	keep, torn := lot.roll(6), oneOf(lot, 0, 1, 30, 99)
	p.r.halt()
	p.b.Halt()
	p.on(t, fmt.Sprintf("Crash(%d, %d)", keep, torn), func(d *disk.Disk) api.Errno { return api.Errno(d.Crash(keep, torn)) })
}

// other is what others do on the disk; the steward's own files they touch only while it is not up.
func (p *pair) other(t *testing.T, lot *dice) {
	t.Helper()
	size := lot.roll(80)
	what := lot.roll(9)
	if p.r.up {
		what %= 4
	}
	text := oneOf(lot, "", "gran", logText(3, 1, 7, 0), logText(9, 2, 7, 1), logText(4, 3, 0, 3), logText(most, 1, 7, 2), logText(most-1, 3, 0, 3), logText(2, 9, 7, 0), logText(2, 1, 7, 0)[:50]+sumLine(7))
	p.on(t, fmt.Sprintf("another's %d (%d bytes, %q)", what, size, text), func(d *disk.Disk) api.Errno {
		switch what {
		case 0:
			return d.Create("x")
		case 1:
			return d.Append("x", string(make([]byte, size)))
		case 2:
			return d.Remove("x")
		case 3:
			return d.SyncDir("")
		case 4:
			return d.Create("job.new")
		case 5:
			return d.Append("job.new", text)
		case 6:
			return d.Mkdir("job.new")
		}
		// Another log, now and then.
		if size > 15 {
			return api.OK
		}
		return first(
			func() api.Errno { d.Remove("job"); return d.Create("job") },
			func() api.Errno { return d.Append("job", text) },
			func() api.Errno { return d.Sync("job") },
			func() api.Errno { return d.SyncDir("") },
		)
	})
}

func TestStewardsByLot(t *testing.T) {
	lot := dice(20)
	counts := map[string]int{}
	for range 1500 {
		p := both(t, &lot)
		for range 200 {
			p.call(t, &lot)
			if lot.roll(50) == 0 && !p.b.d.Down() {
				p.another(t)
			}
		}
		for _, line := range p.tale {
			name, _, _ := strings.Cut(line, "(")
			name, _, _ = strings.Cut(name, ":")
			_, code, _ := strings.Cut(line, "messages, ")
			counts[name+" "+code]++
		}
	}
	for _, what := range []string{
		"Boot 0", "Boot 142", "Boot 10", "Boot 40", "Boot 41", "Boot 42",
		"Begin 0", "Begin 10", "Begin 15", "Begin 141", "Begin 150", "Begin 152", "Begin 80", "Begin 3",
		"Take 0", "Take 10", "Take 15", "Take 141", "Tick 0", "Tick 10", "Tick 15", "Tick 141", "Stop 0", "Stop 141", "Stop 151", "Halt 0", "Halt 141",
	} {
		if counts[what] < 50 {
			t.Errorf("%s: %d times", what, counts[what])
		}
	}
	t.Log(counts)
}

// another steward over a copy of the disk answers at Boot what this one would, and what the plain reading does.
func (p *pair) another(t *testing.T) {
	t.Helper()
	one, other := copied(t, p.b.d), copied(t, p.b.d)
	r := &reading{c: p.r.c, d: other}
	want, f := r.boot()
	b := over(t, p.b.c, one)
	list, e := b.Boot()
	q := &pair{b: b, r: r, tale: p.tale}
	q.agree(t, "another's Boot", list, e, want, f)
}
