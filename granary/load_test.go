package granary

import (
	"slices"
	"strings"
	"testing"

	"granary/api"
	"granary/ring"
)

// P24.1, P24.12: New and Load.

func dir(path string) api.Stored { return api.Stored{Path: path, Kind: api.IsDir} }

func file(path, data string) api.Stored { return api.Stored{Path: path, Kind: api.IsFile, Data: data} }

// noMachine holds that there is none.
func noMachine(t *testing.T, what string, m *Machine, e, want api.Errno) {
	t.Helper()
	if m != nil || e != want {
		t.Errorf("%s: %v, %d, want nil, %d", what, m, e, want)
	}
}

func TestDefinitionsThatAreRefused(t *testing.T) {
	for _, text := range []string{
		"", "store s\n", "tick\n", one + "store t\n", one + "width 1\n", changed(one, "width 0"), changed(one, "store S"), changed(one, "burst 1"),
		changed(one, "node 1 zone 9 parts"), changed(one, "node 1 zone 0 parts 5"), changed(one, "replicas 2"), changed(one, "node 2 zone 0 parts"),
		strings.Replace(one, "depot 10000\n", "", 1), strings.Replace(one, "node 0 zone 0 parts 0\n", "", 1), one + strings.Repeat("#", 70000),
	} {
		_, want, _ := ring.Parse(text)
		m, e := New(text)
		if want == api.OK {
			t.Fatalf("ring takes %.60q", text)
		}
		noMachine(t, "New", m, e, want)
		for _, nodes := range [][][]api.Stored{nil, {nil}, {{dir("A")}}} {
			m, e = Load(text, []api.Stored{dir("A")}, []api.Stored{{Kind: 7}}, nodes)
			noMachine(t, "Load", m, e, want)
		}
	}
}

func TestNew(t *testing.T) {
	for _, text := range []string{one, three(), changed(one, "room 1", "depot 1"), changed(three(), "node 3 zone 7 parts")} {
		m := newMachine(t, text)
		v := m.Look()
		is(t, "nodes", len(v.Nodes), len(clusterOf(t, text).Nodes))
		for n, x := range v.Nodes {
			same(t, "a node", x, api.NodeView{Id: n, Up: true})
			same(t, "its disk", m.Files(n), []api.Stored{dir("store")})
		}
		v.Nodes = nil
		looksLike(t, "one sees", v, api.View{Ruling: true})
		is(t, "the depot", len(m.Files(-1)), 0)
		is(t, "the controller's disk", len(m.Files(-2)), 0)
		is(t, "the depot's room", m.depot.Capacity(), clusterOf(t, text).Depot)
		is(t, "the controller's room", m.desk.Capacity(), 4096)
		for _, h := range m.hosts {
			is(t, "a node's room", h.disk.Capacity(), clusterOf(t, text).Room)
		}
	}
}

// Load of empty disks is New; the lists may be nil or empty.
func TestLoadOfNothing(t *testing.T) {
	want := state(newMachine(t, three()))
	for _, nodes := range [][][]api.Stored{{nil, nil, nil}, {{}, nil, {}}} {
		m, e := Load(three(), nil, []api.Stored{}, nodes)
		is(t, "Load", e, api.OK)
		is(t, "one sees", state(m), want)
	}
	for _, nodes := range [][][]api.Stored{nil, {}, {nil}, {nil, nil}, {nil, nil, nil, nil}, {{dir("A")}}} {
		m, e := Load(three(), []api.Stored{dir("A")}, []api.Stored{{Kind: 9}}, nodes)
		noMachine(t, "Load of "+digits(len(nodes))+" lists", m, e, api.ErrArg)
	}
}

// The disks are filled the depot first, then the controller's, then the nodes'; the first thing that is refused ends it.
func TestLoadRefuses(t *testing.T) {
	bad := []struct {
		list []api.Stored
		e    api.Errno
	}{
		{[]api.Stored{{Path: "a", Kind: 3}}, api.ErrArg},
		{[]api.Stored{{Path: "a"}}, api.ErrArg},
		{[]api.Stored{{Path: "A", Kind: -1}}, api.ErrArg},
		{[]api.Stored{dir("")}, api.ErrThere},
		{[]api.Stored{file("", "")}, api.ErrThere},
		{[]api.Stored{dir("A")}, api.ErrPath},
		{[]api.Stored{file("a//b", "")}, api.ErrPath},
		{[]api.Stored{dir("a/b"), dir("a")}, api.ErrNone},
		{[]api.Stored{file("a/b", "x"), dir("a")}, api.ErrNone},
		{[]api.Stored{file("a", ""), file("a/b", "x")}, api.ErrKind},
		{[]api.Stored{file("a", ""), file("a", "x")}, api.ErrThere},
		{[]api.Stored{dir("a"), dir("a")}, api.ErrThere},
		{[]api.Stored{file("a", strings.Repeat("x", 4096)), file("b", strings.Repeat("x", 5905))}, api.ErrFull},
		{[]api.Stored{file("a", "x"), dir("b"), {Path: "c", Kind: 7}, dir("A")}, api.ErrArg},
		{[]api.Stored{file("a", "x"), dir("b"), dir("A"), {Path: "c", Kind: 7}}, api.ErrPath},
	}
	for i, first := range bad {
		for k, second := range bad {
			m, e := Load(one, first.list, second.list, [][]api.Stored{nil})
			noMachine(t, "the depot", m, e, first.e)
			m, e = Load(one, nil, first.list, [][]api.Stored{second.list})
			noMachine(t, "the controller's", m, e, first.e)
			m, e = Load(changed(one, "node 1 zone 0 parts"), nil, nil, [][]api.Stored{first.list, second.list})
			noMachine(t, "a node's", m, e, first.e)
			if i == 0 {
				m, e = Load(changed(one, "node 1 zone 0 parts"), []api.Stored{dir("x")}, []api.Stored{dir("x")}, [][]api.Stored{{dir("x")}, second.list})
				noMachine(t, "the last node's "+digits(k), m, e, second.e)
			}
		}
	}
	for _, c := range []struct {
		depot, desk, node int
		want              api.Errno
	}{{10000, 4096, 10000, api.OK}, {10001, 0, 0, api.ErrFull}, {0, 4097, 0, api.ErrFull}, {0, 0, 10001, api.ErrFull}} {
		things := func(n int) []api.Stored { return []api.Stored{file("x", strings.Repeat("x", n))} }
		_, e := Load(one, things(c.depot), things(c.desk), [][]api.Stored{things(c.node)})
		is(t, "things to the disks' ends", e, c.want)
	}
}

// lived is a machine that has been through something.
func lived(t *testing.T) *Machine {
	t.Helper()
	m := newMachine(t, changed(three(), "patience 400"))
	m.Do(built(1, "a=1", "b=2", "c=3"))
	m.Do(api.Op{Kind: api.OpSwap, I: 1})
	rounds(t, m, 60)
	m.Do(built(2, "a=4", "d=5"))
	m.Do(api.Op{Kind: api.OpSwap, I: 2})
	rounds(t, m, 2)
	v := m.Look()
	if v.Nodes[0].Has.Cur != 1 || !v.Busy || len(v.Nodes[0].Partial) != 1 {
		t.Fatalf("one sees %+v", v)
	}
	return m
}

func allFiles(m *Machine) [][]api.Stored {
	var list [][]api.Stored
	for n := range m.Look().Nodes {
		list = append(list, m.Files(n))
	}
	return list
}

// All that is loaded is safe; nothing else goes on than the controller's job, with its compensation.
func TestLoadStandsAsBehindAPowerLoss(t *testing.T) {
	text := changed(three(), "patience 400")
	m := lived(t)
	do(t, m, "get =a\naudit 1\nexport 1\n")
	x, e := Load(text, m.Files(-1), m.Files(-2), allFiles(m))
	is(t, "Load", e, api.OK)
	v, was := x.Look(), m.Look()
	looksLike(t, "the parts", api.View{Now: v.Now, Busy: v.Busy, Open: v.Open, Auditing: v.Auditing, Ruling: v.Ruling, Exporting: v.Exporting, Built: v.Built}, api.View{Busy: true, Ruling: true, Built: []int{1, 2}})
	for n := range v.Nodes {
		looksLike(t, "a node", v.Nodes[n], api.NodeView{Id: n, Up: true, Has: was.Nodes[n].Has, Partial: was.Nodes[n].Partial})
	}
	for n, msg := range told(t, v.Flight) {
		is(t, "a letter", msg, api.Msg{Kind: api.MsgBack, From: 64, To: n, Id: 2, Epoch: 2, Seq: 2})
	}
	is(t, "letters", len(v.Flight), 3)
	is(t, "the first letter", v.Flight[0].Id, 1)
	is(t, "the disks", state(x)[strings.Index(state(x), "\n"):], state(m)[strings.Index(state(m), "\n"):])
	// A crash takes nothing away.
	before := state(x)
	do(t, x, "crash 0 0 0\ncrash 1 0 0\ncrash 2 0 0\ncrash -1 0 0\nboot 0\nboot 1\nboot 2\n")
	is(t, "behind a crash of all", state(x), before)
	do(t, x, "crash -2 0 0\nrevive\ndrop 3\ndrop 3\ndrop 3\n")
	is(t, "behind a crash of the controller", state(x)[:strings.Index(state(x), "Flight")], before[:strings.Index(before, "Flight")])
	is(t, "pending", pending(x), 0)
	var log []api.Event
	for range 8 {
		log = append(log, rounds(t, x, 1)...)
	}
	if !slices.ContainsFunc(log, func(e api.Event) bool {
		return e.Kind == api.EvReport && e.Report.Outcome == api.Restored && e.Report.Job == 2
	}) {
		t.Errorf("the job is not restored: %+v", log)
	}
}

func pending(m *Machine) int {
	sum := 0
	for _, d := range m.disks() {
		sum += d.Pending()
	}
	return sum
}

// Things that are loaded are safe even where no boot touches them, deep down too.
func TestLoadMakesAllSafe(t *testing.T) {
	things := []api.Stored{dir("a"), dir("a/b"), dir("a/b/c"), file("a/b/c/f", "deep"), file("a/f", "x"), file("g", ""), dir("store"), file("store/latest", "no pointer")}
	m, e := Load(one, things, things[:6], [][]api.Stored{things})
	is(t, "Load", e, api.OK)
	is(t, "pending", pending(m), 0)
	was := state(m)
	do(t, m, "crash 0 0 0\ncrash -1 0 0\n")
	is(t, "behind a crash", state(m), was)
	v := m.Look()
	is(t, "a node whose pointer is spoilt", v.Nodes[0].Up, false)
	is(t, "the controller", v.Ruling, true)
	behind(t, m, "it boots no more", "boot 0\n", "up 0 120 0\n")
}

// Whoever cannot be booted is not up, and nothing tells it; the others are.
func TestLoadOfSpoiltDisks(t *testing.T) {
	text := changed(one, "node 1 zone 0 parts")
	m, e := Load(text, nil, []api.Stored{file("job", "no log")}, [][]api.Stored{{file("store", "")}, nil})
	is(t, "Load", e, api.OK)
	v := m.Look()
	is(t, "node 0", v.Nodes[0].Up, false)
	is(t, "node 1", v.Nodes[1].Up, true)
	is(t, "Ruling", v.Ruling, false)
	is(t, "in flight", len(v.Flight), 0)
	behind(t, m, "their boots", "boot 0\nrevive\ntick\nswap 1\n", "up 0 14 0\nup -2 40 0\nrefused 141\n")
}

// The order of a list counts, not its sorting; what is loaded is cleared up as by any boot.
func TestLoadOrder(t *testing.T) {
	m := after(t, one, whole+"turn 0\n")
	files := m.Files(0)
	slices.SortFunc(files, func(a, b api.Stored) int {
		if strings.Count(a.Path, "/") != strings.Count(b.Path, "/") {
			return strings.Count(a.Path, "/") - strings.Count(b.Path, "/")
		}
		return -strings.Compare(a.Path, b.Path)
	})
	files = append(files, dir("store/trash-7"), file("store/latest.new", "x"), dir("store/version-9"))
	x, e := Load(one, m.Files(-1), nil, [][]api.Stored{files})
	is(t, "Load", e, api.OK)
	same(t, "node 0", x.Look().Nodes[0].Has, api.State{Cur: 1, Epoch: 1, Seq: 1, Have: []int{1}})
	same(t, "its disk", x.Files(0), m.Files(0))
	slices.Reverse(files)
	x, e = Load(one, m.Files(-1), nil, [][]api.Stored{files})
	noMachine(t, "a parent behind its child", x, e, api.ErrNone)
}

// The controller's job, of each kind, goes on behind Load, or not.
func TestLoadOfOpenJobs(t *testing.T) {
	for _, c := range []struct {
		steps, log string
		busy       bool
	}{
		{"swap 1\n", "sent 0 8 0 64 1 1 2 0 0 0 = =\nreport 1 1 1 2 0 -\n", true},
		{"back 1\n", "sent 0 8 0 64 1 1 2 0 0 0 = =\nreport 1 2 1 2 0 -\n", true},
		{"look\n", "", false},
		{"swap 1\nstop\n", "sent 0 8 0 64 1 1 2 0 0 0 = =\nreport 1 1 1 2 0 -\n", true},
	} {
		m := after(t, one, c.steps)
		x, e := Load(one, nil, m.Files(-2), [][]api.Stored{nil})
		is(t, "Load", e, api.OK)
		is(t, "Busy", x.Look().Busy, c.busy)
		log := ""
		for range 3 {
			for len(x.Look().Flight) > 0 {
				log += do(t, x, "deliver 0\n")
			}
			log += do(t, x, "turn 0\n")
		}
		is(t, "behind Load of "+c.steps, log, c.log)
		behind(t, x, "the next job", "look\ndeliver 0\nturn 0\n", "sent 0 10 0 64 2 "+digits(x.Look().Nodes[0].Has.Epoch)+" "+digits(x.Look().Nodes[0].Has.Seq)+" 0 0 0 = =\n")
	}
}

// The messages of an open job are posted: over links that are whole, to the nodes that are there by now.
func TestLoadOfAJobForMoreNodes(t *testing.T) {
	m := after(t, one, "swap 9\n")
	x, e := Load(three(), nil, m.Files(-2), [][]api.Stored{nil, nil, nil})
	is(t, "Load", e, api.OK)
	same(t, "the letters", idsAndTos(x), [][2]int{{1, 0}, {2, 1}, {3, 2}})
}
