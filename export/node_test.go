package export

import (
	"fmt"
	"slices"
	"strings"
	"testing"

	"granary/api"
	"granary/builder"
	"granary/digest"
	"granary/disk"
	"granary/engine"
	"granary/frame"
	"granary/node"
	"granary/ring"
	"granary/shelf"
)

// The whole chapter over nodes that are real: the questions go out as frames, which are lost, doubled, late and in any order by lot; the nodes answer out of what they fetched.

// station is a node that is up, and its disk.
type station struct {
	n *node.Node
	d *disk.Disk
}

// crops is a dataset; some values are empty.
func crops() []api.Pair {
	var list []api.Pair
	for i := range 60 {
		list = append(list, api.Pair{Key: fmt.Sprint("crop ", i), Value: strings.Repeat("v", i%10)})
	}
	return list
}

func depotOf(t *testing.T, c api.Cluster, version int) *disk.Disk {
	t.Helper()
	d, e := disk.New(1 << 20)
	is(t, "the depot", e, api.OK)
	_, e = builder.Build(d, c, api.Job{Version: version, Policy: api.KeepNone, Memory: 65536, FanIn: 2}, crops())
	is(t, "Build", e, api.OK)
	return d
}

// rowsOf are the pairs of each partition, in the order of the shelf's Scan.
func rowsOf(t *testing.T, c api.Cluster, version int, depot *disk.Disk) [][]api.Pair {
	t.Helper()
	var rows [][]api.Pair
	for part := range 4 {
		owners, e := ring.Owners(c, part)
		is(t, "Owners", e, api.OK)
		s, e := shelf.Open(depot, fmt.Sprintf("build-%d/node-%d", version, owners[0]), c, owners[0], version)
		is(t, "the shelf", e, api.OK)
		list, e := s.Scan(part)
		is(t, "Scan", e, api.OK)
		is(t, "a row with several pairs", len(list) > 3, true)
		rows = append(rows, list)
	}
	return rows
}

// fetched is a node that is up and has a version, out of a depot; nil: it has none.
func fetched(t *testing.T, c api.Cluster, id, version int, depot *disk.Disk) station {
	t.Helper()
	d, e := disk.New(c.Room)
	is(t, "a disk", e, api.OK)
	n, e := node.New(c, id, d)
	is(t, "a node", e, api.OK)
	is(t, "Boot", n.Boot(), api.OK)
	s := station{n, d}
	if depot == nil {
		return s
	}
	s.ask(t, api.Msg{Kind: api.MsgFetch, From: api.AddrControl, To: id, Id: 1, Epoch: 1, Version: version})
	for range 100000 {
		w, e := n.Want()
		switch {
		case e == api.ErrOver:
			same(t, "what it has", n.Look().Has.Have, []int{version})
			return s
		case e == api.ErrWait:
			n.Tick()
		case w.File == "manifest":
			text, e := builder.Manifest(depot, version, id)
			n.Feed(e, text, digest.CRC(text))
		default:
			text, e := builder.Block(depot, version, id, w.File, w.At, w.Size)
			n.Feed(e, text, digest.CRC(text))
		}
	}
	t.Fatal("the fetch does not end")
	return s
}

// ask lets a node do a message, and tells its answer, if it has one.
func (s station) ask(t *testing.T, m api.Msg) []api.Msg {
	t.Helper()
	text, e := frame.Encode(m)
	is(t, fmt.Sprintf("the frame of %+v", m), e, api.OK)
	if s.n.Post(text) != api.OK {
		return nil
	}
	var list []api.Msg
	for _, text := range s.n.Turn() {
		m, e := frame.Decode(text)
		is(t, "the answer's frame", e, api.OK)
		list = append(list, m)
	}
	return list
}

// spoilt takes away a file of what a node has of a partition.
func (s station) spoilt(t *testing.T, c api.Cluster, id, version, part int) {
	t.Helper()
	slots, _ := ring.Holds(c, id)
	i := slices.IndexFunc(slots, func(slot api.Slot) bool { return slot.Part == part })
	name, e := ring.FileName(api.File{Part: part, Replica: slots[i].Replica, Chunk: 1, Data: true})
	is(t, "FileName", e, api.OK)
	is(t, "Remove", s.d.Remove(disk.Path(engine.Dir(version), name)), api.OK)
}

// drive lets an export go on to its end. Of so many messages, one is lost.
func drive(t *testing.T, lot *dice, x *Export, stations []station, version, lossy int) {
	t.Helper()
	flight, e := x.Begin(version)
	is(t, "Begin", e, api.OK)
	for f := fuse(0); x.Busy(); f.burn(t) {
		if len(flight) == 0 || lot.roll(12) == 0 {
			list, _ := x.Tick()
			flight = append(flight, list...)
			continue
		}
		i := lot.roll(len(flight))
		m := flight[i]
		if lot.roll(5) > 0 { // else it comes once more
			flight = slices.Delete(flight, i, i+1)
		}
		switch {
		case lossy > 0 && lot.roll(lossy) == 0:
		case m.To == api.AddrExport:
			list, _ := x.Take(m)
			flight = append(flight, list...)
		default:
			flight = append(flight, stations[m.To].ask(t, m)...)
		}
	}
}

func joined(rows [][]api.Pair, without ...int) []api.Pair {
	var all []api.Pair
	for part, row := range rows {
		if !slices.Contains(without, part) {
			all = append(all, row...)
		}
	}
	return all
}

// Node 0 holds the partitions 0 1 2 3, node 1 0 and 1, node 2 2 and 3.
func TestRealNodes(t *testing.T) {
	c := pace(40)
	depot := depotOf(t, c, 5)
	rows := rowsOf(t, c, 5, depot)
	all := []station{fetched(t, c, 0, 5, depot), fetched(t, c, 1, 5, depot), fetched(t, c, 2, 5, depot)}
	poor := []station{fetched(t, c, 0, 5, nil), all[1], all[2]}
	spoilt := []station{fetched(t, c, 0, 5, depot), fetched(t, c, 1, 5, depot), all[2]}
	spoilt[0].spoilt(t, c, 0, 5, 0)
	spoilt[1].spoilt(t, c, 1, 5, 0)
	spoilt[1].spoilt(t, c, 1, 5, 1)
	down := []station{fetched(t, c, 0, 5, depot), all[1], fetched(t, c, 2, 5, depot)}
	is(t, "Halt", down[0].n.Halt(), api.OK)
	is(t, "Halt", down[2].n.Halt(), api.OK)
	lot := dice(2107)
	for range 10 {
		x := made(t, c)
		drive(t, &lot, x, all, 5, 0)
		reportIs(t, x, run{1, 5}, joined(rows))
		drive(t, &lot, x, poor, 5, 0)
		reportIs(t, x, run{2, 5}, joined(rows))
		drive(t, &lot, x, spoilt, 5, 0)
		reportIs(t, x, run{3, 5}, joined(rows, 0), 0)
		drive(t, &lot, x, down, 5, 0)
		reportIs(t, x, run{4, 5}, joined(rows, 2, 3), 2, 3)
		drive(t, &lot, x, all, 6, 0) // nobody has it
		reportIs(t, x, run{5, 6}, nil, 0, 1, 2, 3)
	}
}

// However much is lost: of what isn't missing just the pairs are told that the build has.
func TestMuchIsLost(t *testing.T) {
	c := pace(4)
	depot := depotOf(t, c, 5)
	rows := rowsOf(t, c, 5, depot)
	all := []station{fetched(t, c, 0, 5, depot), fetched(t, c, 1, 5, depot), fetched(t, c, 2, 5, depot)}
	lot, events := dice(7012), map[string]int{}
	for range 200 {
		x := made(t, c)
		drive(t, &lot, x, all, 5, 5+lot.roll(80))
		r, _ := x.Report()
		reportIs(t, x, run{1, 5}, joined(rows, r.Missing...), r.Missing...)
		events[fmt.Sprint(len(r.Missing), " missing")]++
	}
	for _, what := range []string{"0 missing", "1 missing", "4 missing"} {
		if events[what] < 3 {
			t.Errorf("%s: %d times (%v)", what, events[what], events)
		}
	}
}
