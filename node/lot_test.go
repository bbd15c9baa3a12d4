package node

import (
	"fmt"
	"reflect"
	"slices"
	"strings"
	"testing"

	"granary/api"
	"granary/digest"
	"granary/disk"
	"granary/frame"
)

// P14.1 to P14.13: nodes drawn by lot, on disks that go down and crash and get full, fed with anything, are held against the plain reading on a disk of its own.

// pair is the program and the reading, side by side.
type pair struct {
	t         *testing.T
	lot       dice
	c         api.Cluster
	id        int
	own, twin *disk.Disk
	n         *Node
	read      *reading
	told      []string
	counts    map[string]int
	kept      *api.Msg // the last order that was acknowledged
}

func (p *pair) tell(format string, all ...any) {
	p.told = append(p.told, fmt.Sprintf(format, all...))
}

func (p *pair) fail(format string, all ...any) {
	p.t.Helper()
	p.t.Fatalf("%s\n%s", strings.Join(p.told, "\n"), fmt.Sprintf(format, all...))
}

func (p *pair) both(do func(d *disk.Disk)) {
	do(p.own)
	do(p.twin)
}

// alike holds the answers, the two disks and the two nodes against one another.
func (p *pair) alike(got, want any) {
	p.t.Helper()
	if fmt.Sprint(got) != fmt.Sprint(want) {
		p.fail("= %v, want %v", got, want)
	}
	if p.own.Acts() != p.twin.Acts() || p.own.Pending() != p.twin.Pending() || p.own.Down() != p.twin.Down() || !slices.Equal(p.own.Dump(), p.twin.Dump()) {
		p.fail("%d acts, %d pending, want %d, %d", p.own.Acts(), p.own.Pending(), p.twin.Acts(), p.twin.Pending())
	}
	if v, w := p.n.Look(), p.read.look(); !reflect.DeepEqual(v, w) {
		p.fail("Look = %+v, want %+v", v, w)
	}
	if p.n.Up() != p.read.isUp {
		p.fail("Up = %v", p.n.Up())
	}
}

// frames holds what goes out, and that what is served is right.
func (p *pair) frames(what string, got []string, want []api.Msg) {
	p.t.Helper()
	var list []api.Msg
	for _, text := range got {
		m, e := frame.Decode(text)
		if e != api.OK {
			p.fail("no frame: %q", text)
		}
		list = append(list, m)
		p.counts[fmt.Sprint(what, " ", m.Kind, " ", int(m.Code))]++
		p.served(m)
	}
	if len(got) == 0 {
		p.counts[what+" nothing"]++
	}
	p.tell("%s = %+v", what, list)
	p.alike(list, want)
}

// served holds P14.12 and notes what P14.13 keeps.
func (p *pair) served(m api.Msg) {
	p.t.Helper()
	switch m.Kind {
	case api.MsgGot:
		value, found := valueOf(m.Version, m.Key)
		if m.Code == api.OK && (!found || value != m.Value) || m.Code == api.ErrNoKey && found {
			p.fail("%+v: that is not in version %d", m, m.Version)
		}
		if (m.Code == api.OK || m.Code == api.ErrNoKey) && m.Version != p.n.Look().Has.Cur {
			p.fail("%+v: not the current version", m)
		}
	case api.MsgSwapped, api.MsgBacked:
		if m.Code == api.OK {
			p.kept = &m
		}
	}
}

// version draws one of a few, so that they meet again, and now and then one that may not be.
func (p *pair) version() int {
	if p.lot.roll(12) == 0 {
		return []int{0, 1000000, 999999, most}[p.lot.roll(4)]
	}
	if f := p.n.Look().Fetch; f.Version != 0 && p.lot.roll(3) == 0 {
		return f.Version
	}
	return 1 + p.lot.roll(5)
}

// held is one that the node has, more often than not.
func (p *pair) held() int {
	have := p.read.look().Has.Have
	if len(have) == 0 || p.lot.roll(3) == 0 {
		return p.version()
	}
	return have[p.lot.roll(len(have))]
}

// order draws an epoch and a seq near the fence and near the fetch.
func (p *pair) order() (int, int) {
	s := p.read.look().Has
	epoch := max(0, s.Epoch+p.lot.roll(4)-1)
	if p.read.version != 0 && p.lot.roll(2) == 0 {
		epoch = max(0, p.read.epoch+p.lot.roll(3)-1)
	}
	return epoch, []int{1, 2, s.Seq, s.Seq + 1, 0}[p.lot.roll(5)]
}

func (p *pair) message() api.Msg {
	m := api.Msg{From: []int{64, 64, 65, 66, 1, 9}[p.lot.roll(6)], To: p.id, Id: p.lot.roll(20)}
	if p.lot.roll(15) == 0 {
		m.To = p.lot.roll(4)
	}
	epoch, seq := p.order()
	switch p.lot.roll(12) {
	case 0:
		m.Kind = api.MsgPing
	case 1:
		m.Kind = api.MsgAsk
	case 2:
		m.Kind, m.Key = api.MsgGet, []string{"abc", "oat", "only-2", "none", ""}[p.lot.roll(5)]
	case 3:
		m.Kind, m.Version, m.Seq = api.MsgSum, p.held(), p.lot.roll(5)
	case 4:
		m.Kind, m.Version, m.Seq, m.Prev = api.MsgScan, p.held(), p.lot.roll(3), p.lot.roll(12)
	case 5, 6:
		m.Kind, m.Version, m.Epoch, m.Seq = api.MsgSwap, p.held(), epoch, seq
	case 7:
		m.Kind, m.Epoch, m.Seq = api.MsgBack, epoch, seq
	case 8:
		m.Kind = []int{api.MsgPong, api.MsgFetched, api.MsgSwapped, api.MsgTold, api.MsgGot}[p.lot.roll(5)]
	default:
		m.Kind, m.Epoch, m.Version = api.MsgFetch, epoch, p.version()
	}
	return m
}

func (p *pair) post() {
	p.t.Helper()
	m := p.message()
	text, e := frame.Encode(m)
	if e != api.OK {
		p.fail("no frame of %+v", m)
	}
	switch p.lot.roll(25) {
	case 0:
		text = spoilt(text, p.lot.roll(len(text)))
	case 1:
		text = text[:p.lot.roll(len(text))]
	case 2:
		text += text
	}
	p.tell("Post %+v", m)
	e = p.n.Post(text)
	p.counts[fmt.Sprint("Post ", int(e))]++
	p.alike(e, p.read.post(text))
}

func (p *pair) turn() {
	p.t.Helper()
	got := p.n.Turn()
	p.frames("Turn", got, p.read.turn())
}

// fed is what the repository gives, or what becomes of it on its way.
func (p *pair) fed(w api.Want) (api.Errno, string, int) {
	p.t.Helper()
	text := piece(stock(p.t, p.c, p.id, w.Version), w)
	sum := digest.CRC(text)
	switch p.lot.roll(60) {
	case 0, 1:
		return api.ErrLost, "", 0
	case 2:
		if p.lot.roll(4) == 0 {
			return api.ErrUnbuilt, "", 0
		}
	case 3:
		return api.OK, text[:p.lot.roll(len(text))], sum
	case 4:
		text = text[p.lot.roll(len(text)):]
		return api.OK, text, digest.CRC(text)
	case 5:
		return api.OK, spoilt(text, p.lot.roll(len(text))), sum
	case 6:
		text = spoilt(text, p.lot.roll(len(text)))
		return api.OK, text, digest.CRC(text)
	case 7:
		return codes()[p.lot.roll(len(codes()))], text, sum
	case 8, 9:
		if w.File == "manifest" { // another's
			text = stock(p.t, p.c, p.lot.roll(len(p.c.Nodes)), 1+p.lot.roll(5))["manifest"]
			return api.OK, text, digest.CRC(text)
		}
	case 10:
		if w.File == "manifest" { // of a version that will be refused
			text = manifest(p.t, p.c.Store, w.Version, p.id, map[string]string{"a": "", "b": ""})
			return api.OK, text, digest.CRC(text)
		}
	}
	return api.OK, text, sum
}

func (p *pair) pull() {
	p.t.Helper()
	w, e := p.n.Want()
	want, f := p.read.want()
	p.tell("Want = %+v, %d", w, e)
	p.counts[fmt.Sprint("Want ", int(e))]++
	p.alike(fmt.Sprint(w, e), fmt.Sprint(want, f))
	switch {
	case e == api.ErrWait:
		p.tick()
	case e == api.OK && p.lot.roll(15) == 0:
		return
	}
	if e != api.OK {
		w = api.Want{Version: 1, File: "manifest"} // nothing comes of what is not asked for
		if p.lot.roll(5) > 0 {
			return
		}
	}
	code, text, sum := p.fed(w)
	p.tell("Feed(%d, %d bytes, %d)", code, len(text), sum)
	got := p.n.Feed(code, text, sum)
	p.frames("Feed", got, p.read.feed(code, text, sum))
}

func (p *pair) tick() {
	p.t.Helper()
	e := p.n.Tick()
	p.tell("Tick = %d", e)
	p.counts[fmt.Sprint("Tick ", int(e))]++
	p.alike(e, p.read.tick())
}

func (p *pair) boot() {
	p.t.Helper()
	e := p.n.Boot()
	p.tell("Boot = %d", e)
	p.counts[fmt.Sprint("Boot ", int(e))]++
	p.alike(e, p.read.boot())
	if e != api.OK {
		return
	}
	// P14.13: it is as it was acknowledged, or a later order has been carried out, of which nothing was told.
	s := p.n.Look().Has
	if k := p.kept; k != nil && mark(s) != [4]int{k.Version, k.Prev, k.Epoch, k.Seq} {
		if s.Epoch < k.Epoch || s.Epoch == k.Epoch && s.Seq <= k.Seq {
			p.fail("%+v was acknowledged, now there is %+v", *k, s)
		}
		p.counts["an order of which nothing was told"]++
	}
}

func (p *pair) halt() {
	p.t.Helper()
	e := p.n.Halt()
	p.tell("Halt = %d", e)
	p.alike(e, p.read.halt())
}

func (p *pair) crash() {
	p.t.Helper()
	p.halt()
	keep, torn := p.lot.roll(p.own.Pending()+2), p.lot.roll(60)
	p.both(func(d *disk.Disk) { d.Crash(keep, torn) })
	p.tell("Crash(%d, %d)", keep, torn)
	if p.lot.roll(4) == 0 {
		k := p.lot.roll(10)
		p.both(func(d *disk.Disk) { d.Arm(k) })
		p.tell("Arm(%d)", k)
		p.boot()
		p.halt()
		p.both(func(d *disk.Disk) { d.Crash(0, 0) })
		p.tell("Crash(0, 0)")
	}
	p.boot()
}

// others lay what they like: partial directories, and what fills the disk.
func (p *pair) others() {
	switch p.lot.roll(4) {
	case 0:
		v := 1 + p.lot.roll(12)
		dir := fmt.Sprint("store/fetch-", v)
		if p.read.version == v || there(p.own, dir) || p.own.Down() {
			return
		}
		files := map[string]string{"x": "y"}
		if v <= 5 && p.lot.roll(2) == 0 {
			files = stock(p.t, p.c, p.id, v)
		}
		size := 0
		for _, text := range files {
			size += len(text)
		}
		if p.own.Used()+size > p.own.Capacity() {
			return
		}
		p.both(func(d *disk.Disk) { d.Arm(-1); lay(p.t, d, dir, files) })
		p.tell("%s is laid, %d files", dir, len(files))
	case 1, 2:
		if there(p.own, "fill") {
			p.both(func(d *disk.Disk) { d.Arm(-1); away(p.t, d, "fill") })
			p.tell("there is room")
		}
	case 3:
		if left := p.own.Capacity() - p.own.Used(); left > 0 && !there(p.own, "fill") && !p.own.Down() {
			size := max(0, left-p.lot.roll(3000))
			p.both(func(d *disk.Disk) { d.Arm(-1); put(p.t, d, "fill", strings.Repeat("x", size)) })
			p.tell("%d bytes of room", left-size)
		}
	}
}

func (p *pair) run(steps int) {
	p.t.Helper()
	p.boot()
	for range steps {
		switch p.lot.roll(40) {
		case 0, 1, 2, 3, 4:
			p.post()
		case 5, 6, 7, 8, 9:
			p.turn()
		case 10:
			p.tick()
		case 11:
			if p.lot.roll(3) == 0 {
				k := p.lot.roll(1 + p.lot.roll(30))
				p.both(func(d *disk.Disk) { d.Arm(k) })
				p.tell("Arm(%d)", k)
				for p.n.Up() && p.n.Look().Inbox > 0 && p.lot.roll(9) > 0 {
					p.turn()
				}
			}
		case 12:
			if p.lot.roll(4) == 0 {
				p.crash()
			}
		case 13:
			if p.lot.roll(6) == 0 {
				p.halt()
			}
		case 14:
			p.boot()
		case 15:
			p.others()
		case 16:
			if p.lot.roll(20) == 0 {
				for range 18 {
					p.post()
				}
			}
		default:
			p.pull()
		}
		if !p.n.Up() && p.lot.roll(2) == 0 {
			p.crash()
		}
	}
}

func TestByLot(t *testing.T) {
	counts := map[string]int{}
	for seed := range 400 {
		lot := dice(seed)
		p := &pair{t: t, lot: lot, counts: counts}
		p.c, p.id = small(1+lot.roll(3)), 0
		if seed%4 == 0 {
			p.c, p.id = east(), 1
		}
		p.c.Block, p.c.Tries, p.c.Base, p.c.Most = 20+lot.roll(200), 1+lot.roll(4), 1+lot.roll(3), 3+lot.roll(3)
		p.c.Burst = max(p.c.Burst, p.c.Block)
		capacity := []int{4000, 9000, 100000}[seed%3]
		p.own, p.twin = fresh(t, capacity), fresh(t, capacity)
		n, e := New(p.c, p.id, p.own)
		r, f := readNew(p.c, p.id, p.twin)
		done(t, e, f)
		p.n, p.read = n, r
		p.run(300)
	}
	for _, what := range []string{
		"Boot 0", "Boot 10", "Boot 142", "Post 0", "Post 140", "Post 141", "Tick 0", "Tick 141", "Want 0", "Want 110", "Want 111", "Want 141",
		"Turn nothing", "Turn 2 0", "Turn 10 0",
		"Turn 4 0", "Turn 4 80", "Turn 4 122",
		"Turn 6 0", "Turn 6 15", "Turn 6 80", "Turn 6 122", "Turn 6 123", "Turn 8 0", "Turn 8 122",
		"Turn 12 0", "Turn 12 32", "Turn 12 95", "Turn 12 125", "Turn 12 144",
		"Turn 14 0", "Turn 14 123", "Turn 16 0", "Turn 16 16", "Turn 16 123",
		"Feed nothing", "Feed 4 0", "Feed 4 15", "Feed 4 40", "Feed 4 86", "Feed 4 90", "Feed 4 91", "Feed 4 113", "Feed 4 114", "Feed 4 143",
		"an order of which nothing was told",
	} {
		if counts[what] < 3 {
			t.Errorf("%s came %d times", what, counts[what])
		}
	}
}

// Two nodes that are asked the same, on two disks, answer the same, whatever a third one is asked in between.
func TestSameCallsSameAnswers(t *testing.T) {
	for seed := range 20 {
		third := alone(t)
		p := &pair{t: t, lot: dice(seed), counts: map[string]int{}, c: small(2), own: fresh(t, 9000), twin: fresh(t, 9000)}
		n, e := New(p.c, 0, p.own)
		r, f := readNew(p.c, 0, p.twin)
		done(t, e, f)
		p.n, p.read = n, r
		for i := range 20 {
			p.run(10)
			third.does(t, order(i, 1+i%4))
			third.Want()
			third.feeds(stock(t, small(2), 0, 1+i%4)["manifest"])
			third.Tick()
		}
	}
}
