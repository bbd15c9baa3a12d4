package audit

import (
	"testing"

	"granary/api"
)

// The chapter's ten examples, and that of README.md.

func TestExample1(t *testing.T) {
	a := made(t, east())
	is(t, "Busy", a.Busy(), false)
	noReport(t, a, api.ErrIdle)
	beginFails(t, a, 0, api.ErrVersion)
	beginIs(t, a, 7, []api.Msg{
		{Kind: api.MsgSum, From: api.AddrAudit, To: 0, Id: 1, Seq: 0, Version: 7},
		{Kind: api.MsgSum, From: api.AddrAudit, To: 1, Id: 1, Seq: 0, Version: 7},
		{Kind: api.MsgSum, From: api.AddrAudit, To: 2, Id: 1, Seq: 2, Version: 7},
	})
	is(t, "Busy", a.Busy(), true)
	beginFails(t, a, 7, api.ErrBusy)
	beginFails(t, a, 0, api.ErrBusy)
}

// fourth is where example 4 ends.
func fourth(t *testing.T) *Audit {
	t.Helper()
	a := begun(t)
	takeIs(t, a, api.Msg{Kind: api.MsgSummed, From: 1, Id: 1, Seq: 0, Version: 7, Prev: 4, Value: sumS}, question(1, 7, 1, 1)) // 2
	for _, m := range []api.Msg{
		{Kind: api.MsgSummed, From: 1, Id: 1, Seq: 0, Version: 7, Prev: 4, Value: sumS},
		{Kind: api.MsgSummed, From: 1, Id: 2, Seq: 1, Version: 7, Prev: 4, Value: sumS},
		{Kind: api.MsgSummed, From: 1, Id: 1, Seq: 2, Version: 7, Prev: 4, Value: sumS},
		{Kind: api.MsgSummed, From: 1, Id: 1, Seq: 1, Version: 8, Prev: 4, Value: sumS},
	} {
		stays(t, a, func() { takeIs(t, a, m) })
	}
	takeIs(t, a, api.Msg{Kind: api.MsgSummed, From: 1, Id: 1, Seq: 1, Version: 7, Prev: 0, Value: sumS})         // 3
	takeIs(t, a, api.Msg{Kind: api.MsgSummed, From: 2, Id: 1, Seq: 2, Version: 7, Code: api.ErrAbsent})          // 4
	stays(t, a, func() { takeIs(t, a, answer(1, 7, 1, 1, 0, sumS)); takeIs(t, a, answer(1, 7, 2, 2, 0, sumS)) }) // through, missing
	return a
}

// fifth lets node 0 tell of its four partitions.
func fifth(t *testing.T, a *Audit, pairs int, sum string) {
	t.Helper()
	takeIs(t, a, answer(1, 7, 0, 0, pairs, sumS), question(1, 7, 0, 1))
	takeIs(t, a, answer(1, 7, 0, 1, 0, sum), question(1, 7, 0, 2))
	takeIs(t, a, answer(1, 7, 0, 2, 8, sumU), question(1, 7, 0, 3))
	is(t, "Busy", a.Busy(), true)
	noReport(t, a, api.ErrIdle)
	takeIs(t, a, answer(1, 7, 0, 3, 9, sumT))
	is(t, "Busy", a.Busy(), false)
}

func TestExamples2To6(t *testing.T) {
	a := fourth(t)
	fifth(t, a, 4, sumT) // 5
	reportIs(t, a, 1, 7, api.AuditUnlike, []int{1}, []int{2})
	a = fourth(t)
	fifth(t, a, 4, sumS) // 6
	reportIs(t, a, 1, 7, api.AuditOpen, nil, []int{2})
	a = fourth(t)
	fifth(t, a, 5, sumS)
	reportIs(t, a, 1, 7, api.AuditUnlike, []int{0}, []int{2})
}

func TestExample7(t *testing.T) {
	a := fourth(t)
	fifth(t, a, 4, sumT)
	beginIs(t, a, 7, first(2, 7))
	for range 2 {
		tickIs(t, a)
		tickIs(t, a, first(2, 7)...)
	}
	tickIs(t, a)
	is(t, "Busy", a.Busy(), true)
	toldIs(t, a, 1, 7, api.AuditUnlike, []int{1}, []int{2})
	tickIs(t, a)
	reportIs(t, a, 2, 7, api.AuditOpen, nil, []int{0, 1, 2})
}

func TestExample8(t *testing.T) {
	a := made(t, pace(1, 1))
	beginIs(t, a, 7, first(1, 7))
	tickIs(t, a)
	reportIs(t, a, 1, 7, api.AuditOpen, nil, []int{0, 1, 2})
}

func TestExample9(t *testing.T) {
	idle, a := made(t, east()), begun(t)
	for _, m := range []api.Msg{
		{Kind: api.MsgPong, From: 1, To: api.AddrAudit, Id: 1},
		answer(1, 7, 3, 0, 4, sumS),
		answer(1, 7, -1, 0, 4, sumS),
	} {
		stays(t, a, func() { takeIs(t, a, m) })
	}
	stays(t, idle, func() { takeIs(t, idle, answer(1, 7, 0, 0, 4, sumS)); takeIs(t, idle, answer(0, 0, 0, 0, 4, sumS)) })
}

func TestExample10(t *testing.T) {
	a := begun(t)
	takeIs(t, a, answer(1, 7, 1, 0, 4, sumS[:15]))
	tells(t, a, 1, 7, 0, upto(4), alike)
	tells(t, a, 1, 7, 2, []int{2, 3}, alike)
	reportIs(t, a, 1, 7, api.AuditOpen, nil, []int{1})
}

func TestReadme(t *testing.T) {
	a := made(t, east())
	beginIs(t, a, 7, first(1, 7))
	takeIs(t, a, answer(1, 7, 1, 0, 4, sumS), question(1, 7, 1, 1))
	takeIs(t, a, answer(1, 7, 1, 1, 0, sumS))
	takeIs(t, a, refusal(1, 7, 2, 2, api.ErrAbsent))
	tickIs(t, a)
	tickIs(t, a, question(1, 7, 0, 0))
	is(t, "Busy", a.Busy(), true)
	takeIs(t, a, answer(1, 7, 0, 0, 5, sumS), question(1, 7, 0, 1))
	takeIs(t, a, answer(1, 7, 0, 1, 0, sumS), question(1, 7, 0, 2))
	takeIs(t, a, answer(1, 7, 0, 2, 3, sumT), question(1, 7, 0, 3))
	takeIs(t, a, answer(1, 7, 0, 3, 1, sumT))
	is(t, "Busy", a.Busy(), false)
	toldIs(t, a, 1, 7, api.AuditUnlike, []int{0}, []int{2})
	beginIs(t, a, 7, first(2, 7))
	for range 6 {
		toldIs(t, a, 1, 7, api.AuditUnlike, []int{0}, []int{2})
		a.Tick()
	}
	reportIs(t, a, 2, 7, api.AuditOpen, nil, []int{0, 1, 2})
}
