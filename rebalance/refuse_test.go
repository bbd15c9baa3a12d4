package rebalance

import (
	"fmt"
	"slices"
	"strings"
	"testing"

	"granary/api"
	"granary/disk"
)

// P23.6

// wish is a trip that is not laid out yet: with it faults can be wished for in any number.
type wish struct {
	trip
	room   int      // of the disk to, above what lies on it
	things []string // what lies there
	arm    int
	off    bool // it is down
	none   bool // there is none
}

// good is a wish that is granted: E's pair comes to node 1 of F.
func good(t *testing.T) wish {
	t.Helper()
	return wish{trip: trip{east(), west(), 1, 1, fleet(t, east(), 1, chaff(), home), home, nil, goal}, room: 753, things: []string{"store/", "file=x"}, arm: -1}
}

// ready lays it out.
func (w wish) ready(t *testing.T) trip {
	t.Helper()
	x := w.trip
	if w.none {
		return x
	}
	stock := laid(t, w.things...)
	x.to = roomed(t, stock.Used()+w.room)
	for _, s := range stock.Dump() {
		if s.Kind == api.IsDir {
			done(t, x.to.Mkdir(s.Path))
		} else {
			done(t, x.to.Create(s.Path), x.to.Append(s.Path, s.Data))
		}
	}
	safe(t, x.to)
	done(t, x.to.Arm(w.arm))
	if w.off {
		down(t, x.to)
	}
	return x
}

// fault is something for which a call is refused.
type fault struct {
	rank int    // the lower one is told
	of   string // of two of the same there can be just one
	what string
	want api.Errno
	do   func(w *wish)
}

func faults() []fault {
	return []fault{
		{10, "to", "no disk", api.ErrNil, func(w *wish) { w.none = true }},
		{20, "was", "was has no name", api.ErrName, func(w *wish) { w.was.Store = "" }},
		{20, "was", "was has replicas for nobody", api.ErrCopies, func(w *wish) { w.was.Replicas = 4 }},
		{20, "was", "was has no nodes", api.ErrNodes, func(w *wish) { w.was.Nodes = nil }},
		{21, "next", "next has a wrong setting", api.ErrSetting, func(w *wish) { w.next.Retain = 0 }},
		{21, "next", "next lacks a partition", api.ErrParts, func(w *wish) { w.next.Nodes[3].Parts = []int{4} }},
		{22, "both", "they do not fit: the width", api.ErrOther, func(w *wish) { w.next.Width = 2 }},
		{22, "both", "they do not fit: the chunks", api.ErrOther, func(w *wish) { w.was.Chunks = 3 }},
		{22, "both", "they do not fit: the partitions", api.ErrOther, func(w *wish) { w.next.Nodes[0].Parts = []int{0, 4} }},
		{22, "both", "they do not fit: the store", api.ErrOther, func(w *wish) { w.next.Store = "west" }},
		{30, "version", "version 0", api.ErrVersion, func(w *wish) { w.version = 0 }},
		{30, "version", "version -1", api.ErrVersion, func(w *wish) { w.version = -1 }},
		{30, "version", "a version that is too great", api.ErrVersion, func(w *wish) { w.version = last + 1 }},
		{40, "node", "node 4", api.ErrNode, func(w *wish) { w.node = 4 }},
		{40, "node", "node -1", api.ErrNode, func(w *wish) { w.node = -1 }},
		{50, "places", "a disk too few", api.ErrArg, func(w *wish) { w.from = w.from[:2] }},
		{50, "places", "a disk too many", api.ErrArg, func(w *wish) { w.from = append(slices.Clone(w.from), w.from[0]) }},
		{50, "places", "no disks", api.ErrArg, func(w *wish) { w.from = nil }},
		{60, "version", "no such version", api.ErrMissing, func(w *wish) { w.version = 2 }},
		{60, "sources", "no such directory", api.ErrMissing, func(w *wish) { w.dir = "store/version-2" }},
		{60, "sources", "the owners are gone", api.ErrMissing, func(w *wish) { w.from = make([]*disk.Disk, len(w.from)) }},
		{70, "off", "the disk is down", api.ErrDown, func(w *wish) { w.off = true }},
		{71, "toDir", "no path", api.ErrPath, func(w *wish) { w.toDir = "store/A" }},
		{71, "toDir", "a path of nine names", api.ErrPath, func(w *wish) { w.toDir = "store/a/b/c/d/e/f/g/h" }},
		{72, "toDir", "its parent is a file", api.ErrKind, func(w *wish) { w.toDir = "file/x" }},
		{73, "toDir", "a directory is there", api.ErrThere, func(w *wish) { w.things = append(slices.Clone(w.things), goal+"/") }},
		{73, "toDir", "a file is there", api.ErrThere, func(w *wish) { w.things = append(slices.Clone(w.things), goal) }},
		{73, "toDir", "the root", api.ErrThere, func(w *wish) { w.toDir = "" }},
		{80, "room", "a byte of room too few", api.ErrRoom, func(w *wish) { w.room = 752 }},
		{80, "room", "no room", api.ErrRoom, func(w *wish) { w.room = 0 }},
		{90, "toDir", "its parent is not there", api.ErrNone, func(w *wish) { w.toDir = "no/x" }},
		{91, "arm", "no act is done", api.ErrDown, func(w *wish) { w.arm = 0 }},
	}
}

func TestRefused(t *testing.T) {
	is(t, "the good one", good(t).ready(t).carries(t, "no fault", filesOf(t, west(), 1, 1, chaff())).Bytes, 753)
	for _, f := range faults() {
		w := good(t)
		f.do(&w)
		x := w.ready(t)
		if f.rank == 91 { // it takes the disk down, without an act
			_, e := x.carry(t, f.what)
			is(t, f.what, e, f.want)
			is(t, f.what+": down", x.to.Down(), true)
			is(t, f.what+": what lies there", len(under(x.to, "store")), 0)
			continue
		}
		x.refuses(t, f.what, f.want)
	}
}

// Of two faults the earlier one is told.
func TestRefusedForTwo(t *testing.T) {
	for _, f := range faults() {
		for _, g := range faults() {
			if f.rank < g.rank && f.of != g.of {
				w := good(t)
				g.do(&w)
				f.do(&w)
				w.ready(t).refuses(t, fmt.Sprintf("%s, and %s", f.what, g.what), f.want)
			}
		}
	}
}

// As many faults as there can be, from one on.
func TestRefusedForMany(t *testing.T) {
	all := faults()
	for i, first := range all[:len(all)-1] {
		these := []fault{first}
		for _, f := range all[i+1:] {
			if f.rank > these[len(these)-1].rank && !slices.ContainsFunc(these, func(g fault) bool { return g.of == f.of }) {
				these = append(these, f)
			}
		}
		w := good(t)
		for _, f := range slices.Backward(these) {
			f.do(&w)
		}
		w.ready(t).refuses(t, fmt.Sprintf("%s, and %d more", first.what, len(these)-1), first.want)
	}
}

// Definitions that are not valid, or do not fit, are refused as Plan refuses them.
func TestRefusedDefinitions(t *testing.T) {
	others := map[string]api.Cluster{"E": east(), "F": west()}
	for wrong, c := range wrongs() {
		others[fmt.Sprint("wrong: ", wrong)] = c
	}
	for what, c := range unfits() {
		others[what] = c
	}
	from := fleet(t, east(), 1, chaff(), home)
	for a, was := range others {
		for b, next := range others {
			if _, e := plainPlan(was, next); e != api.OK {
				trek(t, was, next, 1, from).refuses(t, a+", then "+b, e)
			}
		}
	}
}

func TestVersionsRange(t *testing.T) {
	for version, want := range map[int]api.Errno{leastInt: api.ErrVersion, -1: api.ErrVersion, 0: api.ErrVersion, 1: api.OK, 2: api.ErrMissing, last: api.ErrMissing, last + 1: api.ErrVersion, mostInt: api.ErrVersion} {
		w := good(t)
		w.version = version
		_, e := w.ready(t).carry(t, "a version")
		is(t, fmt.Sprint("version ", version), e, want)
	}
}

func TestNodesRange(t *testing.T) {
	for _, y := range []struct {
		was, next api.Cluster
		nodes     int // of next
	}{{east(), west(), 4}, {west(), east(), 3}, {east(), settings(1, 1, 2, many(4)), 1}, {east(), fits()["sixteen nodes"], 16}} {
		from := fleet(t, y.was, 1, chaff(), home)
		for _, node := range []int{leastInt, -1, 0, y.nodes - 1, y.nodes, y.nodes + 1, 15, 16, 64, mostInt} {
			x := trek(t, y.was, y.next, node, from)
			if node < 0 || node >= y.nodes {
				x.refuses(t, fmt.Sprint("node ", node), api.ErrNode)
			} else {
				x.carries(t, fmt.Sprint("node ", node), filesOf(t, y.next, node, 1, chaff()))
			}
		}
	}
}

// From has just one place for each node of was: not of next, nor for each node that has something.
func TestPlacesOfFrom(t *testing.T) {
	was := settings(2, 1, 2, []int{0, 2}, []int{1}, nil, []int{3})
	all := fleet(t, was, 1, chaff(), home)
	for count := range 7 {
		from := slices.Clone(all)
		for len(from) < count {
			from = append(from, all[0])
		}
		for _, next := range []api.Cluster{west(), east(), settings(1, 1, 2, many(4))} {
			x := trek(t, was, next, 0, from[:count])
			if count == 4 {
				x.carries(t, "just so many", filesOf(t, next, 0, 1, chaff()))
			} else {
				x.refuses(t, fmt.Sprint(count, " places"), api.ErrArg)
			}
		}
	}
	// Even where nobody is asked.
	next := settings(1, 1, 2, many(4), nil)
	for count, want := range map[int]api.Errno{0: api.ErrArg, 3: api.ErrArg, 4: api.OK, 5: api.ErrArg} {
		_, e := trek(t, was, next, 1, make([]*disk.Disk, count)).carry(t, "a node that holds nothing")
		is(t, fmt.Sprint(count, " places, a node that holds nothing"), e, want)
	}
}

// Room for just the bytes is enough, whatever else lies there; a byte less is not.
func TestRoom(t *testing.T) {
	for node := range 4 {
		need := sizeOf(filesOf(t, west(), node, 1, data(30, "")))
		for _, used := range []int{0, 1, 1000} {
			for _, room := range []int{0, 1, need / 2, need - 1, need, need + 1, 2 * need} {
				w := good(t)
				w.node, w.room, w.from = node, room, fleet(t, east(), 1, data(30, ""), home)
				w.things = []string{"store/", "file=" + strings.Repeat("x", used)}
				x := w.ready(t)
				what := fmt.Sprintf("%d bytes of %d, %d used", room, need, used)
				if room < need {
					x.refuses(t, what, api.ErrRoom)
				} else {
					x.carries(t, what, filesOf(t, west(), node, 1, data(30, "")))
				}
			}
		}
	}
	// Behind a crash more may be used than there is room for: here a file's removal was lost.
	d := roomed(t, 2000)
	put(t, d, "a/file", strings.Repeat("x", 1500))
	put(t, d, "store/", "")
	safe(t, d)
	done(t, d.Remove("a/file"))
	put(t, d, "store/b", strings.Repeat("y", 1500))
	done(t, d.Sync("store/b"), d.SyncDir("store"))
	d.Crash(0, 0)
	is(t, "what is used", d.Used(), 3000)
	x := good(t).ready(t)
	x.to = d
	x.refuses(t, "less than no room", api.ErrRoom)
	done(t, d.Remove("a/file"), d.Truncate("store/b", 1248))
	x.refuses(t, "a byte too few", api.ErrRoom)
	done(t, d.Truncate("store/b", 1247))
	x.carries(t, "just enough", filesOf(t, west(), 1, 1, chaff()))
}

func TestNoSource(t *testing.T) {
	// By E: of 0: 0, 1; of 1: 1, 0; of 2: 0, 2; of 3: 2, 0. Node 3 of F is to hold 1 and 2, node 1 of F 0 and 1.
	all := fleet(t, east(), 1, chaff(), home)
	for _, y := range []struct {
		node int
		left []int // the nodes that are whole
		want api.Errno
	}{
		{3, []int{0, 1, 2}, api.OK}, {3, []int{0}, api.OK}, {3, []int{1, 2}, api.OK}, {3, []int{1}, api.ErrMissing}, {3, []int{2}, api.ErrMissing}, {3, nil, api.ErrMissing},
		{1, []int{1}, api.OK}, {1, []int{0}, api.OK}, {1, []int{2}, api.ErrMissing},
		{2, []int{2}, api.OK}, {2, []int{0}, api.OK}, {2, []int{1}, api.ErrMissing},
	} {
		from := make([]*disk.Disk, 3)
		for _, node := range y.left {
			from[node] = all[node]
		}
		x := trek(t, east(), west(), y.node, from)
		what := fmt.Sprintf("node %d of %v", y.node, y.left)
		if y.want != api.OK {
			x.refuses(t, what, y.want)
		} else {
			x.carries(t, what, filesOf(t, west(), y.node, 1, chaff()))
		}
	}
}
