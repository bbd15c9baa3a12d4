package granary

import (
	"fmt"
	"slices"
	"testing"

	"granary/api"
)

// P24.1, P24.4, P24.6: machines that are not there; whose memory is whose; hard arguments; two machines.

// There is no machine: nil, and one that neither New nor Load made.
func TestNoMachine(t *testing.T) {
	for _, m := range []*Machine{nil, {}} {
		for kind := range 24 {
			if list := m.Do(api.Op{Kind: kind, I: 1, Key: "k", Keys: []string{"k"}}); len(list) != 0 {
				t.Errorf("Do of the kind %d: %+v", kind, list)
			}
		}
		same(t, "Look", m.Look(), api.View{})
		for _, n := range []int{-3, -2, -1, 0, 1, mostInt} {
			is(t, "Files", len(m.Files(n)), 0)
		}
	}
}

func TestFilesOfNobody(t *testing.T) {
	m := lived(t)
	for _, n := range nodeNumbers(3)[2:] {
		is(t, "Files", len(m.Files(n)), 0)
	}
	for n := range 3 {
		if s := fmt.Sprint(m.Files(n)); s == fmt.Sprint(m.Files((n+1)%3)) {
			t.Errorf("Files of node %d is another's", n)
		}
	}
	is(t, "the depot", m.Files(-1)[0].Path, "build-1")
	is(t, "the controller's disk", m.Files(-2)[0].Path, "job")
	// Whether a disk is up makes no difference.
	was := m.Files(1)
	do(t, m, "fuse 1 0\n")
	for m.Look().Nodes[1].Up {
		rounds(t, m, 1)
	}
	is(t, "a disk that is down", len(m.Files(1)) >= len(was)-1, true)
}

// Look tells all that there is.
func TestLook(t *testing.T) {
	m := lived(t)
	do(t, m, "getall =a =b\naudit 1\nexport 1\n")
	v := m.Look()
	is(t, "Now", v.Now, 62)
	is(t, "Open", v.Open, 2)
	is(t, "all go on", v.Busy && v.Ruling && v.Auditing && v.Exporting, true)
	same(t, "Built", v.Built, []int{1, 2})
	is(t, "in flight", len(v.Flight) >= 6, true)
	for n, x := range v.Nodes {
		is(t, "Id", x.Id, n)
		same(t, "Has", x.Has, api.State{Cur: 1, Epoch: 1, Seq: 1, Have: []int{1}})
		same(t, "Partial", x.Partial, []int{2})
		is(t, "Fetch", x.Fetch.Version, 2)
		is(t, "Inbox", x.Inbox, 0)
	}
	do(t, m, "fuse -1 0\npurge 1\ncrash -2 0 0\n")
	v = m.Look()
	is(t, "the depot is down", len(v.Built), 0)
	is(t, "the controller is down", v.Busy || v.Ruling, false)
	is(t, "the others go on", v.Auditing && v.Exporting && v.Open == 2, true)
}

// Whoever gets a list may write into it and append to it: nothing else is changed by that.
func TestListsAreNew(t *testing.T) {
	m := lived(t)
	was := state(m)
	for range 2 {
		for v := m.Look(); len(v.Nodes) > 0; v.Nodes = v.Nodes[1:] {
			scribble(v.Nodes[0].Has.Have, -7)
			scribble(v.Nodes[0].Partial, -7)
			scribble(v.Flight, api.Letter{Id: -7})
			scribble(v.Built, -7)
		}
		for _, list := range [][]api.NodeView{m.Look().Nodes, m.Look().Nodes} {
			scribble(list, api.NodeView{Id: -7})
		}
		for n := deskNumber; n < 3; n++ {
			scribble(m.Files(n), api.Stored{Path: "junk"})
		}
		is(t, "one sees", state(m), was)
	}
	v, other := m.Look(), m.Look()
	want := fmt.Sprintf("%+v", other)
	scribble(v.Nodes[0].Has.Have, -7)
	scribble(v.Nodes, api.NodeView{Id: -7})
	is(t, "another look", fmt.Sprintf("%+v", other), want)
}

// Events are their holder's: two machines do the same steps, and what one of them tells is written over at once.
func TestEventsAreNew(t *testing.T) {
	lot := dice(3)
	text := drawnCalm(&lot)
	w := newWitness(t, text, map[string]int{})
	w.run(&lot, 300)
	w.calms(&lot)
	plain, other := newMachine(t, text), newMachine(t, text)
	for i, op := range w.ops {
		want, list := plain.Do(op), other.Do(op)
		same(t, "step "+digits(i), list, want)
		for _, e := range list {
			scribble(e.Report.Holds, -7)
			scribble(e.Report.Missing, -7)
			scribble(e.Audited.Differ, -7)
			scribble(e.Audited.Missing, -7)
			scribble(e.Exported.Pairs, api.Pair{Key: "junk"})
			scribble(e.Exported.Missing, -7)
		}
		scribble(list, api.Event{Kind: -7})
	}
	is(t, "one sees", state(other), state(plain))
	is(t, "one sees", state(w.m), state(plain))
}

// What is handed in is not changed, nor what lies behind it in its memory; and it is not kept.
func TestWhatIsHandedIn(t *testing.T) {
	lot := dice(11)
	text := drawnCalm(&lot)
	w := newWitness(t, text, map[string]int{})
	w.run(&lot, 300)
	w.calms(&lot)
	plain, other := newMachine(t, text), newMachine(t, text)
	for i, op := range w.ops {
		list := plain.Do(op)
		op.Pairs = append(make([]api.Pair, 0, 30), op.Pairs...)
		op.Keys = append(make([]string, 0, 30), op.Keys...)
		all, keys := slices.Clone(op.Pairs[:30]), slices.Clone(op.Keys[:30])
		same(t, "step "+digits(i), other.Do(op), list)
		same(t, "the pairs", op.Pairs[:30], all)
		same(t, "the keys", op.Keys[:30], keys)
		scribble(op.Pairs, api.Pair{Key: "junk", Value: "junk"})
		scribble(op.Keys, "junk")
	}
	is(t, "one sees", state(other), state(plain))

	m := lived(t)
	spare := func(list []api.Stored) []api.Stored { return append(make([]api.Stored, 0, 99), list...) }
	depot, desk := spare(m.Files(-1)), spare(m.Files(-2))
	nodes := append(make([][]api.Stored, 0, 9), spare(m.Files(0)), spare(m.Files(1)), spare(m.Files(2)))
	was := fmt.Sprint(depot[:99], desk[:99], nodes[:9], nodes[0][:99], nodes[1][:99], nodes[2][:99])
	x, e := Load(changed(three(), "patience 400"), depot, desk, nodes)
	is(t, "Load", e, api.OK)
	is(t, "the lists", fmt.Sprint(depot[:99], desk[:99], nodes[:9], nodes[0][:99], nodes[1][:99], nodes[2][:99]), was)
	want := state(x)
	for _, list := range [][]api.Stored{depot, desk, nodes[0], nodes[1], nodes[2]} {
		scribble(list, api.Stored{Path: "junk"})
	}
	scribble(nodes, nil)
	is(t, "one sees", state(x), want)
}

// Two machines have nothing in common; and to be looked at changes nothing.
func TestTwoMachines(t *testing.T) {
	lot := dice(21)
	text := drawnCalm(&lot)
	w := newWitness(t, text, map[string]int{})
	w.run(&lot, 400)
	alone, watched, still := newMachine(t, text), newMachine(t, text), newMachine(t, text)
	was := state(still)
	acts := func(m *Machine) string {
		s := ""
		for _, d := range m.disks() {
			s += fmt.Sprint(d.Acts(), d.Reads(), d.Pending(), d.Down(), " ")
		}
		return s
	}
	for i, op := range w.ops {
		same(t, "step "+digits(i), watched.Do(op), alone.Do(op))
		for range 2 {
			watched.Look()
			for n := -3; n < 6; n++ {
				watched.Files(n)
			}
		}
		is(t, "the disks behind step "+digits(i), acts(watched), acts(alone))
	}
	is(t, "one sees", state(watched), state(alone))
	is(t, "a machine of the same definition", state(still), was)
}

// No step makes a machine panic, whatever its numbers are, at whatever state it is.
func TestHardArguments(t *testing.T) {
	hard := []int{0, 1, -1, -2, -3, 2, 3, 64, 67, 68, last, last + 1, mostInt, leastInt}
	m := lived(t)
	for kind := range 24 {
		for _, a := range hard {
			for _, b := range hard {
				m.Do(api.Op{Kind: kind, Node: a, I: b, J: a, Job: api.Job{Version: a, Policy: b, Memory: b, FanIn: a}, Fault: api.Fault{Kind: b, At: a, Mask: b}, Key: fmt.Sprint(a), Keys: []string{fmt.Sprint(b), ""}})
				m.Do(api.Op{Kind: kind, Node: b, I: a, J: b, Fault: api.Fault{Kind: api.FaultTrim, At: b}})
			}
		}
		m.Look()
		m.Files(kind)
	}
}
