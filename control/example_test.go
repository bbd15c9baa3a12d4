package control

import (
	"testing"

	"granary/api"
)

// The chapter's eleven examples, and that of README.md.

func TestExample1(t *testing.T) {
	k := made(t, east())
	beginIs(t, k, 1, 7, []api.Msg{
		{Kind: api.MsgFetch, From: 64, To: 0, Id: 1, Epoch: 1, Version: 7},
		{Kind: api.MsgFetch, From: 64, To: 1, Id: 1, Epoch: 1, Version: 7},
		{Kind: api.MsgFetch, From: 64, To: 2, Id: 1, Epoch: 1, Version: 7},
	})
	beginFails(t, k, 1, 8, api.ErrBusy)
	k = made(t, east())
	beginFails(t, k, 4, 0, api.ErrJob)
	beginFails(t, k, 1, 0, api.ErrVersion)
	beginFails(t, k, 2, 1000000, api.ErrVersion)
	beginFails(t, k, 3, 1, api.ErrVersion)
	noReport(t, k, api.ErrIdle)
}

// second is where example 2 ends.
func second(t *testing.T) *Control {
	t.Helper()
	k := inFetch(t, east())
	takeIs(t, k, reply(fetch, 0, 1, 7, api.OK), nil)
	takeIs(t, k, reply(fetch, 0, 1, 7, api.OK), nil)
	takeIs(t, k, reply(fetch, 1, 1, 7, api.OK), nil)
	takeIs(t, k, reply(fetch, 2, 1, 7, api.OK), []api.Msg{
		{Kind: api.MsgSwap, From: 64, To: 0, Id: 1, Epoch: 1, Seq: 1, Version: 7},
		{Kind: api.MsgSwap, From: 64, To: 1, Id: 1, Epoch: 1, Seq: 1, Version: 7},
		{Kind: api.MsgSwap, From: 64, To: 2, Id: 1, Epoch: 1, Seq: 1, Version: 7},
	})
	return k
}

func TestExamples2And3(t *testing.T) {
	k := second(t)
	for _, node := range []int{2, 0, 1} {
		is(t, "Busy", k.Busy(), true)
		takeIs(t, k, reply(swap, node, 1, 7, api.OK), nil)
	}
	reportIs(t, k, 1, 1, 7, api.Succeeded, []int{7, 7, 7})
}

// fourth is where the compensation of example 4 has gone out.
func fourth(t *testing.T) *Control {
	t.Helper()
	k := second(t)
	takeIs(t, k, reply(swap, 2, 1, 7, api.OK), nil)
	takeIs(t, k, reply(swap, 0, 1, 7, api.OK), nil)
	takeIs(t, k, reply(swap, 1, 1, 0, api.ErrAbsent), []api.Msg{
		{Kind: api.MsgBack, From: 64, To: 0, Id: 1, Epoch: 1, Seq: 2},
		{Kind: api.MsgBack, From: 64, To: 1, Id: 1, Epoch: 1, Seq: 2},
		{Kind: api.MsgBack, From: 64, To: 2, Id: 1, Epoch: 1, Seq: 2},
	})
	takeIs(t, k, reply(back, 0, 1, 5, api.OK), nil)
	return k
}

func TestExample4(t *testing.T) {
	k := fourth(t)
	takeIs(t, k, reply(back, 1, 1, 0, api.OK), nil)
	takeIs(t, k, reply(back, 2, 1, 5, api.OK), nil)
	reportIs(t, k, 1, 1, 7, api.Restored, []int{5, 0, 5})
}

func TestExample5(t *testing.T) {
	k := fourth(t)
	takeIs(t, k, reply(back, 2, 1, 5, api.OK), nil)
	tickIs(t, k, nil)
	tickIs(t, k, messages(back, 1, 0, 1))
	tickIs(t, k, nil)
	tickIs(t, k, messages(back, 1, 0, 1))
	tickIs(t, k, nil)
	tickIs(t, k, nil)
	reportIs(t, k, 1, 1, 7, api.Incomplete, []int{5, -1, 5}, 1)
}

func TestExample6(t *testing.T) {
	k := inFetch(t, east())
	tickIs(t, k, nil)
	tickIs(t, k, messages(fetch, 1, 7, 0, 1, 2))
	for range 47 {
		k.Tick()
	}
	tickIs(t, k, messages(back, 1, 0, 0, 1, 2))
}

func TestExample7(t *testing.T) {
	k := inFetch(t, east())
	takeIs(t, k, reply(fetch, 1, 1, 7, api.ErrQuota), messages(back, 1, 0, 0, 1, 2))
	takeIs(t, k, reply(fetch, 0, 1, 7, api.OK), nil)
}

func TestExample8(t *testing.T) {
	k := made(t, east())
	beginIs(t, k, 2, 4, messages(swap, 1, 4, 0, 1, 2))
	stopIs(t, k, messages(back, 1, 0, 0, 1, 2))
	stopIs(t, k, nil)
}

func TestExample9(t *testing.T) {
	k := made(t, east())
	beginIs(t, k, 3, 0, []api.Msg{
		{Kind: api.MsgAsk, From: 64, To: 0, Id: 1},
		{Kind: api.MsgAsk, From: 64, To: 1, Id: 1},
		{Kind: api.MsgAsk, From: 64, To: 2, Id: 1},
	})
	takeIs(t, k, api.Msg{Kind: api.MsgTold, From: 0, To: 64, Id: 1, Version: 7, Epoch: 3}, nil)
	reviveIs(t, k, nil)
	reportIs(t, k, 1, 3, 0, api.Incomplete, []int{-1, -1, -1}, 0, 1, 2)
}

func TestExample10(t *testing.T) {
	k := resumed(t, east(), 5, 1, 7, true)
	is(t, "Busy", k.Busy(), true)
	sent(t, "the last Backed", answered(t, k, back, 3, 5, 3), api.OK, nil)
	reportIs(t, k, 5, 1, 7, api.Restored, []int{3, 3, 3})
	beginIs(t, k, 1, 8, messages(fetch, 6, 8, 0, 1, 2))
	k = resumed(t, east(), 5, 0, 0, false)
	is(t, "Busy", k.Busy(), false)
	noReport(t, k, api.ErrIdle)
	beginIs(t, k, 2, 4, messages(swap, 6, 4, 0, 1, 2))
	for _, x := range []struct {
		job, kind, version int
		open               bool
		want               api.Errno
	}{
		{0, 1, 7, true, api.ErrArg}, {-1, 1, 7, false, api.ErrArg}, {5, 3, 0, true, api.ErrJob}, {5, 1, 0, true, api.ErrVersion},
	} {
		k, list, e := Resume(east(), x.job, x.kind, x.version, x.open)
		notSent(t, "Resume", list, e, x.want)
		is(t, "a controller", k != nil, false)
	}
}

func TestExample11(t *testing.T) {
	k := second(t)
	takeIs(t, k, reply(swap, 0, 1, 6, api.OK), nil)
	other := reply(swap, 0, 1, 7, api.OK)
	other.Id = 2
	takeIs(t, k, other, nil)
	takeIs(t, k, reply(back, 0, 1, 7, api.OK), nil)
	takeIs(t, k, reply(swap, 3, 1, 7, api.OK), nil)
	takeIs(t, k, reply(swap, api.AddrClient, 1, 7, api.OK), nil)
	tickIs(t, k, nil)
	tickIs(t, k, messages(swap, 1, 7, 0, 1, 2))
}

func TestReadme(t *testing.T) {
	k := made(t, east())
	beginIs(t, k, api.JobSwap, 7, messages(fetch, 1, 7, 0, 1, 2))
	takeIs(t, k, reply(fetch, 0, 1, 7, api.OK), nil)
	tickIs(t, k, nil)
	tickIs(t, k, messages(fetch, 1, 7, 1, 2))
	takeIs(t, k, reply(fetch, 2, 1, 7, api.OK), nil)
	takeIs(t, k, reply(fetch, 1, 1, 7, api.OK), messages(swap, 1, 7, 0, 1, 2))
	takeIs(t, k, reply(swap, 1, 1, 7, api.OK), nil)
	takeIs(t, k, reply(swap, 2, 1, 6, api.ErrFull), messages(back, 1, 0, 0, 1, 2))
	is(t, "Busy", k.Busy(), true)
	takeIs(t, k, reply(back, 0, 1, 6, api.OK), nil)
	takeIs(t, k, reply(back, 1, 1, 6, api.OK), nil)
	takeIs(t, k, reply(back, 2, 1, 6, api.OK), nil)
	reportIs(t, k, 1, api.JobSwap, 7, api.Restored, []int{6, 6, 6})
	k, list, e := Resume(east(), 2, api.JobBack, 6, true)
	sent(t, "Resume", list, e, messages(back, 2, 0, 0, 1, 2))
	stopIs(t, k, nil)
	for range 6 {
		k.Tick()
	}
	reportIs(t, k, 2, api.JobBack, 6, api.Incomplete, []int{-1, -1, -1}, 0, 1, 2)
}
