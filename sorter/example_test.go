package sorter

import (
	"slices"
	"testing"

	"granary/api"
)

// The chapter's ten examples, and that of README.md.

func TestExample1(t *testing.T) {
	d := fresh(t, 10000)
	for _, c := range []struct {
		memory, fan int
	}{{0, 2}, {100, 1}, {100, 17}} {
		s, e := New(d, "s", c.memory, c.fan)
		is(t, "New", e, api.ErrArg)
		is(t, "New", s, nil)
	}
	_, e := New(nil, "s", 0, 2)
	is(t, "no disk", e, api.ErrNil)
	on(t, d, "s", 100, 2)
	_, e = New(d, "s", 100, 2)
	is(t, "a second one", e, api.ErrThere)
	_, e = New(d, "x/y", 100, 2)
	is(t, "no parent", e, api.ErrNone)
}

func TestExample2(t *testing.T) {
	_, s := made(t, 10000, 100, 2)
	is(t, "32 bytes", s.Add("h", "k", text(32)), api.OK)
	is(t, "33 bytes", s.Add("h", "k", text(33)), api.ErrRow)
	_, s = made(t, 10000, 100, 4)
	is(t, "7 bytes", s.Add("h", "k", text(7)), api.OK)
	is(t, "8 bytes", s.Add("h", "k", text(8)), api.ErrRow)
}

func TestExample3(t *testing.T) {
	d, s := made(t, 10000, 100, 2)
	heavies(t, s, 50, 50)
	is(t, "Runs", s.Runs(), 0)
	is(t, "Peak", s.Peak(), 100)
	heavies(t, s, 50)
	is(t, "the directory", lies(d), "run-1:100")
	is(t, "Runs", s.Runs(), 1)
}

func TestExample4(t *testing.T) {
	_, s := made(t, 10000, 100, 2)
	done(t, s.Add("b", "", ""), s.Add("a", "", ""), s.Add("b", "", "x"), s.Finish())
	is(t, "Runs", s.Runs(), 1)
	nextIs(t, s, api.Row{Hash: "a", Seq: 1}, api.OK)
	nextIs(t, s, api.Row{Hash: "b", Seq: 0}, api.OK)
	nextIs(t, s, api.Row{Hash: "b", Value: "x", Seq: 2}, api.OK)
	nextIs(t, s, api.Row{}, api.ErrEnd)
	nextIs(t, s, api.Row{}, api.ErrEnd)
}

func TestExample5(t *testing.T) {
	_, s := made(t, 10000, 100, 2)
	done(t, s.Add("a", "b", ""), s.Add("", "z", ""), s.Add("a", "", ""), s.Finish())
	var seqs []int
	for row := range s.All() {
		seqs = append(seqs, row.Seq)
	}
	if !slices.Equal(seqs, []int{1, 2, 0}) {
		t.Errorf("the order %v", seqs)
	}
}

func TestExample6(t *testing.T) {
	_, s := made(t, 10000, 100, 2)
	nextIs(t, s, api.Row{}, api.ErrState)
	is(t, "Finish", s.Finish(), api.OK)
	is(t, "Runs", s.Runs(), 0)
	nextIs(t, s, api.Row{}, api.ErrEnd)
	is(t, "Add", s.Add("", "", ""), api.ErrState)
	is(t, "Finish again", s.Finish(), api.ErrState)
}

func TestExample7(t *testing.T) {
	d, s := made(t, 10000, 100, 2)
	heavies(t, s, 50, 50, 50, 50, 50, 50)
	is(t, "the directory", lies(d), "run-1:100 run-2:100")
	acts := d.Acts()
	is(t, "Finish", s.Finish(), api.OK)
	is(t, "the directory", lies(d), "run-3:100 run-4:200")
	is(t, "the acts of Finish", d.Acts()-acts, 9)
}

func TestExample8(t *testing.T) {
	_, s := made(t, 10000, 100, 2)
	adds(t, s, "z", "x", "y")
	done(t, s.Finish())
	for row := range s.All() {
		is(t, "the first", row.Hash, "x")
		break
	}
	nextIs(t, s, api.Row{Hash: "y", Seq: 2}, api.OK)
	givesHashes(t, s, "z")
}

func TestExample9(t *testing.T) {
	d, s := made(t, 120, 100, 2)
	heavies(t, s, 50, 50, 50, 50)
	is(t, "the fifth", heavy(s, 50), api.ErrFull)
	is(t, "Runs", s.Runs(), 2)
	refuses(t, "a broken one", s)
	is(t, "Close", s.Close(), api.OK)
	_, e := d.Kind("s")
	is(t, "the directory", e, api.ErrNone)
}

func TestExample10(t *testing.T) {
	d, s := made(t, 10000, 100, 2)
	heavies(t, s, 50, 50, 50)
	is(t, "Close", s.Close(), api.OK)
	is(t, "Close again", s.Close(), api.ErrState)
	refuses(t, "a closed one", s)
	is(t, "Runs", s.Runs(), 0)
	_, e := New(d, "s", 100, 2)
	is(t, "New anew", e, api.OK)
}

func TestReadme(t *testing.T) {
	d := fresh(t, 1000)
	s, e := New(d, "tmp", 100, 2)
	is(t, "New", e, api.OK)
	is(t, "Add", s.Add("h2", "plum", "blue"), api.OK)
	is(t, "Add", s.Add("h1", "fig", ""), api.OK)
	is(t, "Add", s.Add("h1", "kiwi", text(31)), api.ErrRow)
	is(t, "Finish", s.Finish(), api.OK)
	row, e := s.Next()
	is(t, "Next", row, api.Row{Hash: "h1", Key: "fig", Seq: 1})
	is(t, "Next", e, api.OK)
	for row := range s.All() {
		is(t, "All", row, api.Row{Hash: "h2", Key: "plum", Value: "blue", Seq: 0})
	}
	is(t, "Peak", s.Peak(), 47)
	is(t, "Close", s.Close(), api.OK)
}
