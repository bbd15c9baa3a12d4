package builder

import (
	"fmt"
	"slices"
	"testing"

	"granary/api"
	"granary/disk"
)

// P8.1

// roomy is a cluster and pairs whose lists have spare room with something in it, and a copy of all of that.
func roomy() (api.Cluster, []api.Pair, func() string) {
	list := append(pairs("abc=grain", "oat=", "abc=chaff"), pairs("spare=1", "room=2")...)
	nodes := append(east().Nodes, holding(7), holding(8))
	parts := []int{0, 2, 40, 41}
	nodes[0].Parts = parts[:2]
	c := east()
	c.Nodes = nodes[:3]
	return c, list[:3], func() string { return fmt.Sprintf("%q %v %v", fmt.Sprint(list), nodes, parts) }
}

func TestNothingIsChanged(t *testing.T) {
	for policy := range 3 {
		c, list, look := roomy()
		before := look()
		Check(job(1, policy, 60, 2), list)
		is(t, "Check", look(), before)
		Need(c, job(1, policy, 60, 2), list)
		is(t, "Need", look(), before)
		d := fresh(t, 100000)
		Build(d, c, job(1, policy, 60, 2), list)
		is(t, "Build", look(), before)
		done(t, d.Arm(20))
		Build(d, c, job(2, policy, 60, 2), list)
		is(t, "a Build that is broken off", look(), before)
	}
}

// TestNothingIsKept: what is handed in may be changed behind a call, and two depots have nothing in common.
func TestNothingIsKept(t *testing.T) {
	c, list, _ := roomy()
	a, b := fresh(t, 100000), fresh(t, 100000)
	builds(t, a, c, easy(1), list)
	before := a.Dump()
	for i := range list {
		list[i] = api.Pair{Key: "x", Value: "y"}
	}
	c.Nodes[0].Parts[0], c.Nodes[1] = 99, api.NodeDef{}
	same(t, "the version", a.Dump(), before)
	builds(t, b, single(), easy(1), nil)
	done(t, Drop(b, 1))
	same(t, "another depot's", a.Dump(), before)
	versionsAre(t, a, 1)
	versionsAre(t, b)
	c, list, _ = roomy()
	d := fresh(t, 100000)
	builds(t, d, c, easy(1), list)
	same(t, "the same build again", d.Dump(), before)
}

func TestNilAndEmpty(t *testing.T) {
	a, b := fresh(t, 100000), fresh(t, 100000)
	none, empty := east(), east()
	none.Nodes = append(none.Nodes, api.NodeDef{})
	empty.Nodes = append(empty.Nodes, api.NodeDef{Parts: []int{}})
	is(t, "Check", Check(easy(1), []api.Pair{}), Check(easy(1), nil))
	n, e := Need(none, easy(1), nil)
	m, f := Need(empty, easy(1), []api.Pair{})
	is(t, "Need", n, m)
	is(t, "Need", e, f)
	is(t, "Build", builds(t, a, none, easy(1), nil), builds(t, b, empty, easy(1), []api.Pair{}))
	same(t, "Build", a.Dump(), b.Dump())
	no, e := Need(api.Cluster{Store: "s", Nodes: []api.NodeDef{}}, easy(1), nil)
	is(t, "no nodes", no, 0)
	is(t, "no nodes", e, api.ErrSetting)
}

func TestAnswersAreNew(t *testing.T) {
	d := fresh(t, 100000)
	for v := range 5 {
		put(t, d, fmt.Sprintf("build-%d/", v+1), "")
	}
	list, _ := Versions(d)
	other, _ := Versions(d)
	_ = append(list, 77)
	list[0] = 78
	if !slices.Equal(other, []int{1, 2, 3, 4, 5}) {
		t.Errorf("another answer is %v", other)
	}
	for _, n := range other[:cap(other)] {
		if n > 5 {
			t.Error("the spare room is shared")
		}
	}
	versionsAre(t, d, 1, 2, 3, 4, 5)
}

// TestOddCalls: every call ends and none panics, whatever it is given; with an error all else is zero.
func TestOddCalls(t *testing.T) {
	numbers := []int{leastInt, -1, 0, 1, 2, 3, 15, 16, 17, 999999, 1000000, 1 << 30, 1<<30 + 1, mostInt}
	lot := dice(1)
	any := func() int { return numbers[lot.roll(len(numbers))] }
	texts := []string{"", "meta", "manifest", "0_0_0.index", "0_0_0.data", "x", "../meta", "\xff", text(300)}
	for i := range 3000 {
		d := fresh(t, []int{0, 700, 100000}[i%3])
		if lot.roll(3) > 0 {
			put(t, d, fmt.Sprintf("build-%d/", 1+lot.roll(3)), "")
			put(t, d, "part-1/x", "")
		}
		d.Arm(lot.roll(40) - 5)
		if lot.roll(20) == 0 {
			d = nil
		}
		c := []api.Cluster{{}, single(), east()}[lot.roll(3)]
		if lot.roll(4) == 0 {
			c.Replicas, c.Width, c.Chunks = any(), any(), any()
		}
		list := []api.Pair{{Key: texts[lot.roll(9)], Value: texts[lot.roll(9)]}, {Key: texts[lot.roll(9)]}}[:lot.roll(3)]
		j := job(1+lot.roll(4), lot.roll(3), 1000, 2)
		if lot.roll(2) == 0 {
			j = job(any(), any(), any(), any())
		}
		if n, e := Need(c, j, list); e != api.OK && n != 0 {
			t.Errorf("Need = %d, %d", n, e)
		}
		if e := Check(j, list); e != plainCheck(j, list) {
			t.Errorf("Check(%+v, %v) = %d", j, list, e)
		}
		if s, e := Block(d, any(), any(), texts[lot.roll(9)], any(), any()); e != api.OK && s != "" {
			t.Errorf("Block = %q, %d", s, e)
		}
		if s, e := Manifest(d, any(), any()); e != api.OK && s != "" {
			t.Errorf("Manifest = %q, %d", s, e)
		}
		if b, e := Build(d, c, j, list); e != api.OK && b != (api.Built{}) {
			t.Errorf("Build = %+v, %d", b, e)
		}
		Drop(d, any())
		Clean(d)
		if l, e := Versions(d); e != api.OK && len(l) != 0 {
			t.Errorf("Versions = %v, %d", l, e)
		}
	}
}

// TestNoDisk: a disk that New did not make is none.
func TestNoDisk(t *testing.T) {
	d := &disk.Disk{}
	refuses(t, "Build", d, east(), easy(1), nil, api.ErrNil)
	_, e := Versions(d)
	is(t, "Versions", e, api.ErrNil)
	_, e = Manifest(d, 1, 0)
	is(t, "Manifest", e, api.ErrNil)
	_, e = Block(d, 1, 0, "meta", 0, 0)
	is(t, "Block", e, api.ErrNil)
	is(t, "Drop", Drop(d, 1), api.ErrNil)
	is(t, "Clean", Clean(d), api.ErrNil)
}

// TestCaught: what is thrown is what comes back, and a fault of the program is not taken for an answer.
func TestCaught(t *testing.T) {
	throw := func(e api.Errno) (got api.Errno) {
		defer func() { got = caught(recover()) }()
		must(e)
		return api.OK
	}
	is(t, "OK", throw(api.OK), api.OK)
	is(t, "ErrDown", throw(api.ErrDown), api.ErrDown)
	is(t, "ErrRow", throw(api.ErrRow), api.ErrRow)
	defer func() { is(t, "another panic", recover(), any("a fault")) }()
	caught("a fault")
}
