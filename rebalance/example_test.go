package rebalance

import (
	"fmt"
	"slices"
	"testing"

	"granary/api"
	"granary/disk"
)

// The chapter's eight examples, and that of README.md.

// three are the disks of E's nodes, with the pair abc "chaff".
func three(t *testing.T) []*disk.Disk { t.Helper(); return fleet(t, east(), 1, chaff(), home) }

// namesOf are the names of files, and how many bytes they have.
func namesOf(files []api.Pair) []string {
	var names []string
	for _, f := range files {
		names = append(names, fmt.Sprint(f.Key, " ", len(f.Value)))
	}
	return names
}

func TestExample0(t *testing.T) {
	for part, want := range [][]int{{0, 1}, {1, 0}, {0, 2}, {2, 0}} {
		same(t, "owners by E", plainOwners(east(), part), want)
	}
	for part, want := range [][]int{{0, 1}, {1, 3}, {3, 2}, {2, 0}} {
		same(t, "owners by F", plainOwners(west(), part), want)
	}
}

func TestExample1(t *testing.T) {
	planIs(t, "Plan(E, F)", east(), west(),
		[5]int{0, 0, 0, 0, 0}, [5]int{3, 0, 1, 0, 1},
		[5]int{0, 1, 1, 1, 1}, [5]int{1, 1, 0, 1, 0},
		[5]int{2, 2, 1, 2, 1}, [5]int{3, 2, 0, 2, 0},
		[5]int{1, 1, 0, 3, 1}, [5]int{2, 0, 0, 3, 0})
}

func TestExample2(t *testing.T) {
	moves, e := plans(t, east(), east())
	is(t, "Plan(E, E)", e, api.OK)
	is(t, "Plan(E, E)", len(moves), 8)
	for _, m := range moves {
		is(t, "From", m.From, m.To)
		is(t, "FromReplica", m.FromReplica, m.Replica)
	}
	_, e = plans(t, east(), with(east(), func(c *api.Cluster) { c.Width = 2 }))
	is(t, "E with width 2", e, api.ErrOther)
	_, e = plans(t, east(), api.Cluster{})
	is(t, "the cluster without a name", e, api.ErrName)
}

func TestExample3(t *testing.T) {
	leavesAre(t, "Leaves(E, F, 0)", east(), west(), 0, [2]int{1, 1}, [2]int{2, 0})
	leavesAre(t, "Leaves(E, F, 3)", east(), west(), 3)
	_, e := leaves(t, east(), west(), 4)
	is(t, "Leaves(E, F, 4)", e, api.ErrNode)
	leavesAre(t, "Leaves(F, E, 3)", west(), east(), 3, [2]int{1, 1}, [2]int{2, 0})
}

func TestExample4(t *testing.T) {
	x := trek(t, east(), west(), 3, three(t))
	told, e := x.carry(t, "to node 3")
	is(t, "to node 3", e, api.OK)
	is(t, "to node 3", told, api.Carried{Slots: 2, Local: 0, Files: 10, Bytes: 730})
	names := namesOf(under(x.to, goal))
	same(t, "the files", names[:8], []string{"1_1_0.data 0", "1_1_0.index 0", "1_1_1.data 0", "1_1_1.index 0", "2_0_0.data 0", "2_0_0.index 0", "2_0_1.data 0", "2_0_1.index 0"})
	same(t, "the papers", names[8:], []string{"manifest 631", "meta 99"})
	is(t, "the meta file", bytesOf(t, x.to, goal+"/meta")[:86], "granary meta 1\nstore east\nversion 1\nnode 3\nparts 4\nreplicas 2\nwidth 1\nchunks 2\nrows 0\n")
}

func TestExample5(t *testing.T) {
	x := trek(t, east(), west(), 1, three(t))
	told, e := x.carry(t, "to node 1")
	is(t, "to node 1", e, api.OK)
	is(t, "Slots", told.Slots, 2)
	is(t, "Local", told.Local, 2)
	is(t, "0_1_0.data", bytesOf(t, x.to, goal+"/0_1_0.data"), "\x00\x01\x00\x03\x00\x00\x00\x05abcchaff")
	is(t, "the meta file", bytesOf(t, x.to, goal+"/meta")[79:86], "rows 1\n")
}

func TestExample6(t *testing.T) {
	from := three(t)
	want := filesOf(t, west(), 3, 1, chaff())
	trek(t, east(), west(), 3, []*disk.Disk{nil, from[1], from[2]}).carries(t, "node 0 is gone", want)
	trek(t, east(), west(), 3, []*disk.Disk{nil, from[1], nil}).refuses(t, "nodes 0 and 2 are gone", api.ErrMissing)
	meta := []byte(bytesOf(t, from[0], home+"/meta"))
	for at := range meta {
		meta[at] ^= 1
		rewrite(t, from[0], home+"/meta", string(meta))
		trek(t, east(), west(), 3, from).carries(t, "a byte of node 0's meta file is turned", want)
		trek(t, east(), west(), 3, []*disk.Disk{from[0], from[1], nil}).refuses(t, "and node 2 is gone", api.ErrMissing)
		meta[at] ^= 1
	}
}

func TestExample7(t *testing.T) {
	from := three(t)
	x := trek(t, east(), west(), 3, from[:2])
	x.refuses(t, "two disks", api.ErrArg)
	trek(t, east(), west(), 4, from).refuses(t, "node 4", api.ErrNode)
	x = trek(t, east(), west(), 3, from)
	x.version = 0
	x.refuses(t, "version 0", api.ErrVersion)
	x.version = 2
	x.refuses(t, "version 2", api.ErrMissing)
	x.version = 1
	x.carries(t, "version 1", filesOf(t, west(), 3, 1, chaff()))
	x.refuses(t, "again", api.ErrThere)
	x.toDir = "no/x"
	x.refuses(t, "no/x", api.ErrNone)
	x.to, x.toDir = roomed(t, 729), "x"
	x.refuses(t, "too little room", api.ErrRoom)
	is(t, "acts", x.to.Acts(), 0)
}

func TestExample8(t *testing.T) {
	x := trek(t, east(), west(), 3, three(t))
	before := x.to.Acts()
	x.carries(t, "example 4", filesOf(t, west(), 3, 1, chaff()))
	is(t, "acts", x.to.Acts()-before, 25)
}

func TestReadme(t *testing.T) {
	was, next := east(), west()
	from := three(t)
	d := laid(t, "store/")
	moves, e := Plan(was, next)
	is(t, "Plan", e, api.OK)
	is(t, "the first one", moves[0], api.Move{Part: 0, From: 0, FromReplica: 0, To: 0, Replica: 0})
	is(t, "the last one", moves[7], api.Move{Part: 2, From: 0, FromReplica: 0, To: 3, Replica: 0})
	slots, e := Leaves(was, next, 0)
	is(t, "Leaves", e, api.OK)
	same(t, "Leaves", slots, []api.Slot{{Part: 1, Replica: 1}, {Part: 2, Replica: 0}})
	told, e := Carry(was, next, 1, 3, from, "store/version-1", d, "store/fetch-1")
	is(t, "Carry", e, api.OK)
	is(t, "Carry", told, api.Carried{Slots: 2, Local: 0, Files: 10, Bytes: 730})
	_, e = Carry(was, next, 1, 3, from, "store/version-1", d, "store/fetch-1")
	is(t, "again", e, api.ErrThere)
	from[0] = nil
	told, e = Carry(was, next, 1, 1, from, "store/version-1", d, "x")
	is(t, "without node 0", e, api.OK)
	is(t, "without node 0", told, api.Carried{Slots: 2, Local: 2, Files: 10, Bytes: 753})
	if !slices.Equal(under(d, "x"), filesOf(t, next, 1, 1, chaff())) {
		t.Error("without node 0: other files")
	}
	from[1] = nil
	_, e = Carry(was, next, 1, 1, from, "store/version-1", d, "y")
	is(t, "without nodes 0 and 1", e, api.ErrMissing)
}
