package engine

import (
	"fmt"
	"slices"
	"strings"
	"testing"

	"granary/api"
	"granary/disk"
)

// P12.2 to P12.12: stores drawn by lot, on a disk that goes down and crashes and in whose store others lay what they like, are held against the plain reading on a disk of its own.

// pair is the program and the reading, side by side.
type pair struct {
	t         *testing.T
	lot       dice
	own, twin *disk.Disk
	c         api.Cluster
	node      int
	x         *Engine
	read      *reading
	round     int // so that partial directories of one version do not all say the same
	told      []string
	counts    map[string]int
	good      map[string]bool // what a partial directory may say that is whole: a version, a key, a value
}

func (p *pair) tell(format string, all ...any) {
	p.told = append(p.told, fmt.Sprintf(format, all...))
}

func (p *pair) fail(format string, all ...any) {
	p.t.Helper()
	p.t.Fatalf("%s\n%s", strings.Join(p.told, "\n"), fmt.Sprintf(format, all...))
}

// alike holds the two disks and the two stores against one another.
func (p *pair) alike(got, want any) {
	p.t.Helper()
	if fmt.Sprint(got) != fmt.Sprint(want) || p.own.Acts() != p.twin.Acts() || p.own.Pending() != p.twin.Pending() || p.own.Down() != p.twin.Down() || !slices.Equal(p.own.Dump(), p.twin.Dump()) {
		p.fail("= %v, %d acts, %d pending\n%s\nwant %v, %d acts, %d pending\n%s",
			got, p.own.Acts(), p.own.Pending(), dumped(p.own), want, p.twin.Acts(), p.twin.Pending(), dumped(p.twin))
	}
	if p.x == nil || p.own.Down() && !p.read.stuck {
		return
	}
	s, w := p.x.State(), p.read.state()
	if s.Cur != w.Cur || s.Prev != w.Prev || s.Epoch != w.Epoch || s.Seq != w.Seq || !slices.Equal(s.Have, w.Have) || !slices.Equal(p.x.Partial(), p.read.partial()) {
		p.fail("State = %+v, %v, want %+v, %v", s, p.x.Partial(), w, p.read.partial())
	}
}

// both does something to the two disks.
func (p *pair) both(do func(d *disk.Disk)) {
	do(p.own)
	do(p.twin)
}

func (p *pair) open() {
	p.t.Helper()
	x, e := Open(p.own, p.c, p.node)
	r, want := readOpen(p.twin, p.c, p.node)
	p.x, p.read = x, r
	p.tell("Open = %v, %d", x != nil, e)
	p.counts[fmt.Sprint("Open ", e)]++
	if (x != nil) != (e == api.OK) {
		p.fail("an engine: %v", x != nil)
	}
	p.alike(e, want)
}

// many are the versions that come and go.
func many() []int { return []int{1, 2, 3, 9, 10} }

func (p *pair) version() int {
	if p.lot.roll(15) == 0 {
		return []int{leastInt, 0, 1000000, 999999}[p.lot.roll(4)]
	}
	return many()[p.lot.roll(len(many()))]
}

// of is one of some versions, if there are any, more often than not.
func (p *pair) of(some []int) int {
	if len(some) == 0 || p.lot.roll(4) == 0 {
		return p.version()
	}
	return some[p.lot.roll(len(some))]
}

func (p *pair) order() (int, int) {
	if p.lot.roll(20) == 0 {
		odd := []int{leastInt, -1, most + 1, mostInt}
		return odd[p.lot.roll(4)], odd[p.lot.roll(4)]
	}
	near := func(n int) int { return max(0, n+p.lot.roll(4)-1) }
	s, e := p.read.pointer()
	if !e {
		return 1, 1
	}
	if p.lot.roll(4) == 0 {
		return s.Epoch, s.Seq + 1
	}
	return near(s.Epoch), near(s.Seq)
}

// fetched lays a partial directory, whole or not.
func (p *pair) fetched() {
	v := many()[p.lot.roll(len(many()))]
	dir := fmt.Sprint("store/fetch-", v)
	if has(p.own, dir) && p.lot.roll(4) != 0 {
		return
	}
	if has(p.own, dir) {
		p.both(func(d *disk.Disk) { away(p.t, d, dir) })
		p.tell("%s goes", dir)
		return
	}
	p.round++
	round := p.round % 5
	files := slices.Clone(built(p.t, p.c, p.node, v, data(v, round)))
	fault := p.lot.roll(8)
	switch at := p.lot.roll(len(files)); fault {
	case 0:
		files = slices.Delete(files, at, at+1)
	case 1:
		files[at].Value += "x"
	case 2:
		files = append(files, api.Pair{Key: "journal"})
	case 3:
		if i := slices.IndexFunc(files, func(f api.Pair) bool { return strings.HasSuffix(f.Key, ".data") && f.Value != "" }); i >= 0 {
			files[i].Value = files[i].Value[:len(files[i].Value)-1] + "?"
		}
	}
	if fault != 3 { // a crash may undo another fault, but not this one
		for _, x := range data(v, round) {
			p.good[fmt.Sprint(v, x.Key, x.Value)] = true
		}
	}
	size := 0
	for _, f := range files {
		size += len(f.Value)
	}
	if p.own.Used()+size > p.own.Capacity() {
		return
	}
	p.both(func(d *disk.Disk) { lay(p.t, d, dir, files) })
	p.tell("%s comes, round %d, fault %d", dir, round, fault)
}

// litter lays what an Open finds.
func (p *pair) litter() {
	paths := []string{
		"latest.new", "latest.new/a/b", "trash-3/x", "trash-10", "trash-9/y/z", "trash-0/x", "version-5/meta", "version-12", "version-01/x", "version-10x", "fetch-7", "other/x", "version-6/a/b",
		"trash-2/", "version-2/more", "version-3/more", "version-9/more", "version-1/more", "latest/",
	}
	if now, _ := (&reading{d: p.twin}).pointer(); now.Prev != now.Cur {
		paths = append(paths, slices.Repeat([]string{fmt.Sprintf("version-%d/more", now.Prev)}, 20)...)
	}
	for range p.lot.roll(5) {
		path := paths[p.lot.roll(len(paths))]
		first, _, _ := strings.Cut(path, "/")
		kind, _ := p.own.Kind("store/" + first)
		if kind == api.IsFile || kind == api.IsDir && !strings.HasSuffix(path, "/more") || has(p.own, "store/"+path) || p.own.Used()+9 > p.own.Capacity() {
			continue
		}
		p.both(func(d *disk.Disk) { put(p.t, d, "store/"+path, "litter") })
		p.tell("%s is laid", path)
	}
}

// crash ends what was, and the store is opened anew, broken off now and then.
func (p *pair) crash() {
	p.t.Helper()
	keep, torn := p.lot.roll(p.own.Pending()+2), p.lot.roll(60)
	p.both(func(d *disk.Disk) { d.Crash(keep, torn) })
	p.tell("Crash(%d, %d)", keep, torn)
	if p.lot.roll(3) == 0 {
		p.litter()
	}
	for range 5 {
		if p.lot.roll(3) == 0 {
			k := p.lot.roll(12)
			p.both(func(d *disk.Disk) { d.Arm(k) })
			p.tell("Arm(%d)", k)
		}
		p.open()
		if p.x != nil {
			p.both(func(d *disk.Disk) { d.Arm(-1) })
			return
		}
		keep := p.lot.roll(p.own.Pending() + 2)
		p.both(func(d *disk.Disk) { d.Crash(keep, 0) })
		p.tell("Crash(%d)", keep)
		for _, path := range []string{"store/latest", "store/version-1/more", "store/version-2/more", "store/version-3/more", "store/version-9/more"} { // what keeps it from being opened
			if kind, _ := p.own.Kind(path); kind == api.IsDir || kind == api.IsFile && path != "store/latest" {
				p.both(func(d *disk.Disk) { away(p.t, d, path) })
				p.tell("%s goes", path)
			}
		}
	}
}

// room fills the disk, or makes room.
func (p *pair) room() {
	if has(p.own, "store/fill") {
		p.both(func(d *disk.Disk) { away(p.t, d, "store/fill") })
		p.tell("there is room")
		return
	}
	if left := p.own.Capacity() - p.own.Used(); left > 0 {
		size := max(0, left-p.lot.roll(90))
		p.both(func(d *disk.Disk) { put(p.t, d, "store/fill", strings.Repeat("x", size)) })
		p.tell("%d bytes of room", left-size)
	}
}

func (p *pair) change() {
	p.t.Helper()
	switch p.lot.roll(5) {
	case 0, 1:
		v := p.of(p.read.partial())
		e := p.x.Admit(v)
		p.tell("Admit(%d) = %d", v, e)
		p.counts[fmt.Sprint("Admit ", e)]++
		p.alike(e, p.read.admit(v))
	case 2:
		v := p.of(p.read.have())
		epoch, seq := p.order()
		want := p.read.swap(v, epoch, seq)
		e := p.x.Swap(v, epoch, seq)
		p.tell("Swap(%d, %d, %d) = %d", v, epoch, seq, e)
		p.counts[fmt.Sprint("Swap ", e)]++
		p.alike(e, want)
	case 3:
		epoch, seq := p.order()
		want := p.read.rollback(epoch, seq)
		e := p.x.Rollback(epoch, seq)
		p.tell("Rollback(%d, %d) = %d", epoch, seq, e)
		p.counts[fmt.Sprint("Rollback ", e)]++
		p.alike(e, want)
	case 4:
		list, e := p.x.Prune()
		p.tell("Prune = %v, %d", list, e)
		p.counts[fmt.Sprint("Prune ", min(len(list), 1), e)]++
		gone, want := p.read.prune()
		p.alike(fmt.Sprint(list, e), fmt.Sprint(gone, want))
	}
}

func (p *pair) ask() {
	p.t.Helper()
	v, part, at := p.of(p.read.have()), p.lot.roll(6)-1, p.lot.roll(6)-1
	if p.lot.roll(2) == 0 {
		part = 0
	}
	for _, key := range []string{"abc", "oat", "rye", "fig", "plum", "none", ""} {
		a, e := p.x.Get(key)
		p.tell("Get(%q) = %+v, %d", key, a, e)
		b, want := p.read.get(key)
		p.alike(fmt.Sprint(a, e), fmt.Sprint(b, want))
		if a.Found && !p.good[fmt.Sprint(a.Version, key, a.Value)] {
			p.fail("no whole directory of version %d had that", a.Version)
		}
		p.counts[fmt.Sprint("Get ", e)]++
	}
	s, n, e := p.x.Sum(v, part)
	p.tell("Sum(%d, %d) = %x, %d, %d", v, part, s, n, e)
	sum, m, want := p.read.sum(v, part)
	p.alike(fmt.Sprint(s, n, e), fmt.Sprint(sum, m, want))
	x, e := p.x.Entry(v, part, at)
	p.tell("Entry(%d, %d, %d) = %v, %d", v, part, at, x, e)
	y, want := p.read.entry(v, part, at)
	p.alike(fmt.Sprint(x, e), fmt.Sprint(y, want))
	p.counts[fmt.Sprint("Entry ", e)]++
}

func (p *pair) run() {
	p.open()
	for range 60 {
		if p.x == nil {
			return // what was laid there keeps it from being opened
		}
		switch p.lot.roll(12) {
		case 0, 1, 2:
			p.fetched()
		case 3, 4, 5, 6:
			p.change()
		case 7:
			p.ask()
		case 8:
			p.room()
		case 9:
			k := p.lot.roll(25)
			p.both(func(d *disk.Disk) { d.Arm(k) })
			p.tell("Arm(%d)", k)
			for range 3 {
				p.change()
				if p.own.Down() {
					p.crash()
				}
				if p.x == nil {
					return
				}
			}
			p.both(func(d *disk.Disk) { d.Arm(-1) })
		case 10:
			if p.lot.roll(3) == 0 {
				p.crash()
			}
		case 11:
			p.open()
		}
		if p.own.Down() || p.x != nil && p.read.stuck {
			p.crash()
		}
	}
}

func TestByLot(t *testing.T) {
	counts := map[string]int{}
	for seed := range 400 {
		lot := dice(seed)
		p := &pair{t: t, lot: lot, counts: counts, good: map[string]bool{}}
		p.c, p.node = small(1+lot.roll(3)), 0
		if seed%4 == 0 {
			p.c, p.node = east(), 1
		}
		capacity := []int{3000, 6000, 100000}[seed%3]
		p.own, p.twin = fresh(t, capacity), fresh(t, capacity)
		p.run()
	}
	for _, what := range []string{
		"Open 0", "Open 10", "Open 120", "Open 121",
		"Admit 0", "Admit 10", "Admit 80", "Admit 91", "Admit 92", "Admit 93", "Admit 124",
		"Swap 0", "Swap 1", "Swap 10", "Swap 15", "Swap 80", "Swap 122", "Swap 123",
		"Rollback 0", "Rollback 1", "Rollback 10", "Rollback 15", "Rollback 122", "Rollback 123",
		"Prune 0 0", "Prune 1 0", "Prune 0 10", "Get 0", "Get 32", "Get 95", "Get 125", "Entry 0", "Entry 1", "Entry 16", "Entry 69", "Entry 95", "Entry 123",
	} {
		if counts[what] < 3 {
			t.Errorf("%s came %d times", what, counts[what])
		}
	}
}
