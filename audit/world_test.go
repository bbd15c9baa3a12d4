package audit

import (
	"fmt"
	"slices"
	"testing"

	"granary/api"
	"granary/builder"
	"granary/digest"
	"granary/disk"
	"granary/frame"
	"granary/node"
	"granary/ring"
)

// The whole chapter over nodes that are real: the questions go out as frames, which are lost, doubled, late and in any order by lot; the nodes answer out of what they fetched.

// crops is a dataset; some keys have another value in another year.
func crops(year int) []api.Pair {
	var list []api.Pair
	for i := range 40 {
		value := "kept"
		if i == year {
			value = "new"
		}
		list = append(list, api.Pair{Key: fmt.Sprint("crop ", i), Value: value})
	}
	return list
}

func depotOf(t *testing.T, c api.Cluster, version int, pairs []api.Pair) *disk.Disk {
	t.Helper()
	d, e := disk.New(1 << 20)
	is(t, "the depot", e, api.OK)
	_, e = builder.Build(d, c, api.Job{Version: version, Policy: api.KeepNone, Memory: 65536, FanIn: 2}, pairs)
	is(t, "Build", e, api.OK)
	return d
}

// fetched is a node that is up and has a version, out of a depot; nil: it has none.
func fetched(t *testing.T, c api.Cluster, id, version int, depot *disk.Disk) *node.Node {
	t.Helper()
	d, e := disk.New(c.Room)
	is(t, "a disk", e, api.OK)
	n, e := node.New(c, id, d)
	is(t, "a node", e, api.OK)
	is(t, "Boot", n.Boot(), api.OK)
	if depot == nil {
		return n
	}
	ask(t, n, api.Msg{Kind: api.MsgFetch, From: api.AddrControl, To: id, Id: 1, Epoch: 1, Version: version})
	for range 100000 {
		w, e := n.Want()
		switch {
		case e == api.ErrOver:
			same(t, "what it has", n.Look().Has.Have, []int{version})
			return n
		case e == api.ErrWait:
			n.Tick()
		case w.File == "manifest":
			text, e := builder.Manifest(depot, version, id)
			n.Feed(e, text, digest.CRC(text))
		default:
			text, e := builder.Block(depot, version, id, w.File, w.At, w.Size)
			n.Feed(e, text, digest.CRC(text))
		}
	}
	t.Fatal("the fetch does not end")
	return nil
}

// ask lets a node do a message, and tells its answer, if it has one.
func ask(t *testing.T, n *node.Node, m api.Msg) []api.Msg {
	t.Helper()
	text, e := frame.Encode(m)
	is(t, fmt.Sprintf("the frame of %+v", m), e, api.OK)
	if n.Post(text) != api.OK {
		return nil
	}
	var list []api.Msg
	for _, text := range n.Turn() {
		m, e := frame.Decode(text)
		is(t, "the answer's frame", e, api.OK)
		list = append(list, m)
	}
	return list
}

// run lets an audit go on to its end. Of so many messages, one is lost.
func run(t *testing.T, lot *dice, a *Audit, nodes []*node.Node, version, lossy int) {
	t.Helper()
	flight, e := a.Begin(version)
	is(t, "Begin", e, api.OK)
	for a.Busy() {
		if len(flight) == 0 || lot.roll(12) == 0 {
			list, _ := a.Tick()
			flight = append(flight, list...)
			continue
		}
		i := lot.roll(len(flight))
		m := flight[i]
		if lot.roll(5) > 0 { // else it comes once more
			flight = slices.Delete(flight, i, i+1)
		}
		switch {
		case lossy > 0 && lot.roll(lossy) == 0:
		case m.To == api.AddrAudit:
			list, _ := a.Take(m)
			flight = append(flight, list...)
		default:
			flight = append(flight, ask(t, nodes[m.To], m)...)
		}
	}
}

// patient is E with sendings enough that hardly anything is missing.
func patient() api.Cluster { return pace(20, 64) }

func TestRealNodes(t *testing.T) {
	c := patient()
	good, other := depotOf(t, c, 5, crops(-1)), depotOf(t, c, 5, crops(3))
	all := []*node.Node{fetched(t, c, 0, 5, good), fetched(t, c, 1, 5, good), fetched(t, c, 2, 5, good)}
	odd := []*node.Node{all[0], fetched(t, c, 1, 5, other), fetched(t, c, 2, 5, other)}
	poor := []*node.Node{all[0], all[1], fetched(t, c, 2, 5, nil)}
	down := []*node.Node{all[0], odd[1], fetched(t, c, 2, 5, good)}
	is(t, "Halt", down[2].Halt(), api.OK)
	where := partOf(t, c, "crop 3")
	lot := dice(1906)
	for range 20 {
		for _, lossy := range []int{0, 4} {
			a := made(t, c)
			run(t, &lot, a, all, 5, lossy)
			reportIs(t, a, 1, 5, api.AuditAlike, nil, nil)
			run(t, &lot, a, odd, 5, lossy)
			reportIs(t, a, 2, 5, api.AuditUnlike, []int{where}, nil)
			run(t, &lot, a, poor, 5, lossy)
			reportIs(t, a, 3, 5, api.AuditOpen, nil, []int{2})
			run(t, &lot, a, down, 5, lossy)
			if where < 2 { // node 1 holds it
				reportIs(t, a, 4, 5, api.AuditUnlike, []int{where}, []int{2})
			} else {
				reportIs(t, a, 4, 5, api.AuditOpen, nil, []int{2})
			}
			run(t, &lot, a, all, 6, lossy) // nobody has it
			reportIs(t, a, 5, 6, api.AuditOpen, nil, upto(3))
		}
	}
}

func partOf(t *testing.T, c api.Cluster, key string) int {
	t.Helper()
	place, e := ring.Locate(c, key)
	is(t, "Locate", e, api.OK)
	return place.Part
}

// However much is lost: what is told to be unlike is, and what is told to be alike is too.
func TestMuchIsLost(t *testing.T) {
	c := pace(2, 3)
	good, other := depotOf(t, c, 5, crops(-1)), depotOf(t, c, 5, crops(3))
	all := []*node.Node{fetched(t, c, 0, 5, good), fetched(t, c, 1, 5, good), fetched(t, c, 2, 5, good)}
	odd := []*node.Node{all[0], fetched(t, c, 1, 5, other), fetched(t, c, 2, 5, other)}
	where := partOf(t, c, "crop 3")
	lot, events := dice(6091), map[string]int{}
	for range 300 {
		a := made(t, c)
		run(t, &lot, a, all, 5, 1+lot.roll(6))
		r, _ := a.Report()
		is(t, "Differ", len(r.Differ), 0)
		is(t, "all alike", r.Outcome == api.AuditAlike, len(r.Missing) == 0)
		events[fmt.Sprint("good ", r.Outcome)]++
		run(t, &lot, a, odd, 5, 1+lot.roll(6))
		r, _ = a.Report()
		if r.Outcome == api.AuditUnlike {
			same(t, "Differ", r.Differ, []int{where})
		} else {
			is(t, "Outcome", r.Outcome, api.AuditOpen)
		}
		events[fmt.Sprint("odd ", r.Outcome)]++
	}
	for _, what := range []string{"good 1", "good 3", "odd 2", "odd 3"} {
		if events[what] < 20 {
			t.Errorf("%s: %d times", what, events[what])
		}
	}
}
