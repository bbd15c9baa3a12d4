package rebalance

import (
	"fmt"
	"maps"
	"slices"
	"strings"
	"sync"
	"testing"

	"granary/api"
	"granary/disk"
)

// P23.1. (That nothing that is handed in is changed or kept, and that answers are new, each call of the other tests holds too: see plans, leaves and carry.)

// A list that is empty means the same as none.
func TestNilAndEmpty(t *testing.T) {
	none, empty := settings(1, 1, 2, many(4), nil), settings(1, 1, 2, many(4), []int{})
	if none.Nodes[1].Parts != nil || empty.Nodes[1].Parts == nil {
		t.Fatal("the lists are not what they are to be")
	}
	want, _ := Plan(none, none)
	left, _ := Leaves(east(), none, 1)
	from := fleet(t, none, 1, chaff(), home)
	for _, a := range []api.Cluster{none, empty} {
		for _, b := range []api.Cluster{none, empty} {
			got, e := Plan(a, b)
			is(t, "Plan", e, api.OK)
			same(t, "Plan", got, want)
			for node := range 2 {
				d := laid(t, "store/")
				told, e := Carry(a, b, 1, node, from, home, d, goal)
				is(t, "Carry", e, api.OK)
				is(t, "Carry", told.Slots, 4-4*node)
				filesAre(t, "Carry", d, goal, filesOf(t, none, node, 1, chaff()))
			}
		}
		got, e := Leaves(east(), a, 1)
		is(t, "Leaves", e, api.OK)
		same(t, "Leaves", got, left)
	}
	for _, nodes := range [][]api.NodeDef{nil, {}} {
		c := east()
		c.Nodes = nodes
		_, e := Plan(c, east())
		is(t, "no nodes", e, api.ErrNodes)
		_, e = Plan(east(), c)
		is(t, "no nodes", e, api.ErrNodes)
	}
	for _, from := range [][]*disk.Disk{nil, {}} {
		_, e := Carry(east(), west(), 1, 0, from, home, laid(t, "store/"), goal)
		is(t, "no disks", e, api.ErrArg)
	}
}

// A disk that disk.New did not make is none, and says so when it is asked.
func TestDiskNeverMade(t *testing.T) {
	from := fleet(t, east(), 1, chaff(), home)
	for _, y := range []struct {
		from []*disk.Disk
		to   *disk.Disk
		want api.Errno
	}{
		{from, nil, api.ErrNil},
		{from, &disk.Disk{}, api.ErrNil},
		{make([]*disk.Disk, 3), &disk.Disk{}, api.ErrMissing},
		{from[:1], &disk.Disk{}, api.ErrArg},
		{from[:1], nil, api.ErrNil},
		{[]*disk.Disk{{}, {}, {}}, laid(t, "store/"), api.ErrMissing},
	} {
		x := trip{east(), west(), 1, 1, y.from, home, y.to, goal}
		x.refuses(t, "a disk that is none", y.want)
	}
}

// The same arguments, the same answers, in any order of calls; one's answers have nothing in common with another's.
func TestNothingIsKept(t *testing.T) {
	pairs := data(20, "")
	from := fleet(t, east(), 1, pairs, home)
	for range 3 {
		for node := range 4 {
			trek(t, east(), west(), node, nil).refuses(t, "refused", api.ErrArg)
			x := trek(t, east(), west(), node, from)
			x.carries(t, "done", filesOf(t, west(), node, 1, pairs))
			y := trek(t, east(), west(), node, tagged(t, east()))
			told, files, _ := y.plain(t)
			is(t, "of other disks", y.carries(t, "of other disks", files), told)
			x.refuses(t, "once more", api.ErrThere)
			filesAre(t, "what was done", x.to, goal, filesOf(t, west(), node, 1, pairs))
			planned(t, "a Plan between", west(), east())
		}
	}
	// The disk that was written to has files of its own.
	x := trek(t, east(), west(), 1, from)
	x.carries(t, "done", filesOf(t, west(), 1, 1, pairs))
	for _, f := range filesOf(t, east(), 1, 1, pairs) {
		rewrite(t, from[1], home+"/"+f.Key, "spoilt")
	}
	filesAre(t, "behind spoiling the source", x.to, goal, filesOf(t, west(), 1, 1, pairs))
}

// Calls at the same time, each with a disk of its own to write to.
func TestAtTheSameTime(t *testing.T) {
	pairs := data(10, "")
	want := make([][]api.Pair, 4)
	for node := range want {
		want[node] = filesOf(t, west(), node, 1, pairs)
	}
	var wait sync.WaitGroup
	for i := range 16 {
		from, to := fleet(t, east(), 1, pairs, home), laid(t, "store/")
		wait.Go(func() {
			node := i % 4
			_, e := Carry(east(), west(), 1, node, from, home, to, goal)
			moves, _ := Plan(east(), west())
			left, _ := Leaves(east(), west(), 0)
			if e != api.OK || len(moves) != 8 || len(left) != 2 || !slices.Equal(under(to, goal), want[node]) {
				t.Errorf("call %d: %d", i, e)
			}
		})
	}
	wait.Wait()
}

// Every call ends, and none panics, whatever it is given.
func TestHardArguments(t *testing.T) {
	numbers := []int{leastInt, leastInt + 1, -1, 0, 1, 2, 3, 4, 15, 16, 17, 63, 64, last, last + 1, mostInt - 1, mostInt}
	long := strings.Repeat("x", 40)
	paths := []string{"", "x", home, goal, "store", "store/", "/", "//", ".", "..", "A", "\x00", "\xff", "x/y", long, long + "x", strings.Repeat(long+"/", 7) + long, strings.Repeat("a/", 9), strings.Repeat("y", 100000), "file/x"}
	clusters := []api.Cluster{{}, {Store: strings.Repeat("s", 1000)}, {Nodes: make([]api.NodeDef, 1000)}, east(), east(), west(), west(), settings(1, 1, 2, many(4))}
	wrong, unfit := wrongs(), unfits()
	for _, e := range slices.Sorted(maps.Keys(wrong)) {
		clusters = append(clusters, wrong[e])
	}
	for _, what := range slices.Sorted(maps.Keys(unfit)) {
		clusters = append(clusters, unfit[what])
	}
	for _, n := range []int{leastInt, -1, mostInt} {
		clusters = append(clusters, settings(n, n, n, []int{n}, nil), with(east(), func(c *api.Cluster) { c.Nodes[1].Parts = []int{n} }), with(east(), func(c *api.Cluster) { c.Nodes[1].Zone = n }))
	}
	from := fleet(t, east(), 1, chaff(), home)
	lot := dice(2301)
	told := map[api.Errno]int{}
	for range 4000 {
		x := trip{oneOf(&lot, clusters...), oneOf(&lot, clusters...), oneOf(&lot, 1, 1, oneOf(&lot, numbers...)), oneOf(&lot, 1, 1, oneOf(&lot, numbers...)), nil, oneOf(&lot, home, home, oneOf(&lot, paths...)), nil, oneOf(&lot, goal, oneOf(&lot, paths...))}
		if lot.roll(3) > 0 {
			x.was, x.next = east(), west()
		}
		for range oneOf(&lot, len(x.was.Nodes), 3, 3, lot.roll(20)) {
			x.from = append(x.from, oneOf(&lot, nil, &disk.Disk{}, from[0], from[1], from[2]))
		}
		if lot.roll(2) == 0 {
			x.from = from
		}
		if lot.roll(9) > 0 {
			x.to = laid(t, "store/", "file=x", home+"/x=y")
			done(t, x.to.Arm(lot.roll(60)-20))
		}
		node := oneOf(&lot, numbers...)
		plans(t, x.was, x.next)
		leaves(t, x.was, x.next, node)
		carried, e := Carry(x.was, x.next, x.version, x.node, x.from, x.dir, x.to, x.toDir)
		if e != api.OK && carried != (api.Carried{}) {
			t.Errorf("%+v beside the error %d", carried, e)
		}
		told[e]++
	}
	for _, e := range []api.Errno{api.OK, api.ErrNil, api.ErrArg, api.ErrDown, api.ErrPath, api.ErrKind, api.ErrThere, api.ErrName, api.ErrVersion, api.ErrNode, api.ErrMissing, api.ErrOther} {
		if told[e] == 0 {
			t.Errorf("never: %d, among %v", e, fmt.Sprint(told))
		}
	}
}
