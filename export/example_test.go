package export

import (
	"testing"

	"granary/api"
)

// The chapter's ten examples, and that of README.md.

func TestExample1(t *testing.T) {
	x := made(t, east())
	noReport(t, x, api.ErrIdle)
	beginFails(t, x, 0, api.ErrVersion)
	list, e := x.Begin(7)
	if len(list) != 1 || e != api.OK || list[0] != (api.Msg{Kind: api.MsgScan, From: api.AddrExport, To: 0, Id: 1, Seq: 0, Version: 7, Prev: 0}) {
		t.Errorf("Begin = %+v, %d", list, e)
	}
	is(t, "Busy", x.Busy(), true)
	beginFails(t, x, 7, api.ErrBusy)
	beginFails(t, x, 0, api.ErrBusy)
}

// fourth is where example 4 ends.
func fourth(t *testing.T) *Export {
	t.Helper()
	x := begun(t)
	m := api.Msg{Kind: api.MsgScanned, From: 0, To: api.AddrExport, Id: 1, Seq: 0, Version: 7, Prev: 0, Key: "abc", Value: "v"}
	takeIs(t, x, m, one.ask(0, 0, 1)) // 2
	stays(t, x, func() { takeIs(t, x, m) })
	takeIs(t, x, api.Msg{Kind: api.MsgScanned, From: 0, To: api.AddrExport, Id: 1, Seq: 0, Version: 7, Prev: 1, Code: api.ErrEnd}, one.ask(1, 1, 0))
	takeIs(t, x, one.end(1, 1, 0), one.ask(2, 2, 0)) // 3
	tickIs(t, x)
	tickIs(t, x, one.ask(0, 2, 0))
	stays(t, x, func() { takeIs(t, x, one.end(2, 2, 0)) })
	takeIs(t, x, one.end(0, 2, 0), one.ask(2, 3, 0))
	takeIs(t, x, one.no(2, 3, 0, api.ErrAbsent), one.ask(0, 3, 0)) // 4
	takeIs(t, x, one.no(0, 3, 0, api.ErrAbsent))
	return x
}

func TestExamples2To4(t *testing.T) {
	x := fourth(t)
	is(t, "Busy", x.Busy(), false)
	r, e := x.Report()
	is(t, "Report", e, api.OK)
	same(t, "Report", r, api.Exported{Job: 1, Version: 7, Pairs: []api.Pair{{Key: "abc", Value: "v"}}, Missing: []int{3}})
}

func TestExample5(t *testing.T) {
	x := begun(t)
	takeIs(t, x, one.give(0, 0, 0, abc), one.ask(0, 0, 1))
	tickIs(t, x)
	tickIs(t, x, one.ask(1, 0, 1))
	tickIs(t, x)
	tickIs(t, x, one.ask(1, 1, 0))
	idles(t, x)
	reportIs(t, x, one, nil, 0, 1, 2, 3)
}

func TestExample6(t *testing.T) {
	x := begun(t)
	for range 16 {
		is(t, "Busy", x.Busy(), true)
		x.Tick()
	}
	reportIs(t, x, one, nil, 0, 1, 2, 3)
}

func TestExample7(t *testing.T) {
	x := begun(t)
	for _, change := range []func(m *api.Msg){
		func(m *api.Msg) { m.Id = 2 }, func(m *api.Msg) { m.Version = 8 }, func(m *api.Msg) { m.Seq = 1 },
		func(m *api.Msg) { m.Prev = 1 }, func(m *api.Msg) { m.From = 1 }, func(m *api.Msg) { m.Kind = api.MsgGot },
	} {
		m := one.give(0, 0, 0, abc)
		change(&m)
		stays(t, x, func() { takeIs(t, x, m) })
	}
	takeIs(t, x, one.give(0, 0, 0, abc), one.ask(0, 0, 1))
}

func TestExample8(t *testing.T) {
	x := fourth(t)
	begins(t, x, run{2, 8}, 0)
	toldIs(t, x, one, []api.Pair{abc}, 3)
}

func TestExample9(t *testing.T) {
	x := begun(t)
	reads(t, x, one, 0, 0, 0, 512)
	takeIs(t, x, one.give(0, 0, 512, abc), one.ask(1, 0, 512))
	takeIs(t, x, one.end(1, 0, 512), one.ask(1, 1, 0))
	idles(t, x)
	reportIs(t, x, one, crop(0, 512), 1, 2, 3)
}

func TestExample10(t *testing.T) {
	c := east()
	c.Replicas = 17
	if x, e := New(c); x != nil || e != api.ErrSetting {
		t.Errorf("New = %v, %d", x != nil, e)
	}
	var none *Export
	beginFails(t, none, 0, api.ErrNil)
	is(t, "Busy", none.Busy(), false)
}

func TestReadme(t *testing.T) {
	x := made(t, east())
	begins(t, x, one, 0)
	takeIs(t, x, one.give(0, 0, 0, abc), one.ask(0, 0, 1))
	takeIs(t, x, one.end(0, 0, 1), one.ask(1, 1, 0))
	takeIs(t, x, one.no(1, 1, 0, api.ErrAbsent), one.ask(0, 1, 0))
	takeIs(t, x, one.end(0, 1, 0), one.ask(2, 2, 0))
	tickIs(t, x)
	tickIs(t, x, one.ask(0, 2, 0))
	takeIs(t, x, one.end(0, 2, 0), one.ask(2, 3, 0))
	is(t, "Busy", x.Busy(), true)
	wait(t, x, 1)
	tickIs(t, x, one.ask(0, 3, 0))
	wait(t, x, 2)
	reportIs(t, x, one, []api.Pair{abc}, 3)
}
