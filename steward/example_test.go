package steward

import (
	"strings"
	"testing"

	"granary/api"
)

// The chapter's ten examples, and that of README.md.

// example1 is where example 1 ends.
func example1(t *testing.T) *bench {
	t.Helper()
	b := over(t, east(), fresh(t, 4096))
	is(t, "Up", b.Up(), false)
	b.beginFails(t, 1, 7, api.ErrOff)
	b.noReport(t, api.ErrOff)
	is(t, "Halt", b.Halt(), api.ErrOff)
	list, e := b.Boot()
	sent(t, "Boot", list, e, nil)
	is(t, "acts", b.d.Acts(), 0)
	list, e = b.Boot()
	notSent(t, "Boot again", list, e, api.ErrOn)
	b.noReport(t, api.ErrIdle)
	b.beginFails(t, 4, 0, api.ErrJob)
	is(t, "acts", b.d.Acts(), 0)
	return b
}

// example2 is where example 2 ends.
func example2(t *testing.T) *bench {
	t.Helper()
	b := example1(t)
	list, e := b.Begin(1, 7)
	sent(t, "Begin(1, 7)", list, e, []api.Msg{
		{Kind: api.MsgFetch, From: 64, To: 0, Id: 1, Epoch: 1, Version: 7},
		{Kind: api.MsgFetch, From: 64, To: 1, Id: 1, Epoch: 1, Version: 7},
		{Kind: api.MsgFetch, From: 64, To: 2, Id: 1, Epoch: 1, Version: 7},
	})
	is(t, "acts", b.d.Acts(), 5)
	text, e := b.d.Read("job", 0, 1000)
	done(t, e)
	is(t, "the log", text[:50], "granary job 1\nnumber 1\nkind 1\nversion 7\noutcome 0\n")
	is(t, "the log", text, logText(1, 1, 7, 0))
	return b
}

func TestExamples1And2(t *testing.T) { example2(t) }

func TestExample3(t *testing.T) {
	b := example2(t)
	b.d.Crash(0, 0)
	done(t, b.Halt())
	list, e := b.Boot()
	sent(t, "Boot", list, e, []api.Msg{
		{Kind: api.MsgBack, From: 64, To: 0, Id: 1, Epoch: 1, Seq: 2},
		{Kind: api.MsgBack, From: 64, To: 1, Id: 1, Epoch: 1, Seq: 2},
		{Kind: api.MsgBack, From: 64, To: 2, Id: 1, Epoch: 1, Seq: 2},
	})
	is(t, "Busy", b.Busy(), true)
	costs(t, "three Backed", b.d, 5, func() { b.ends(t, back, 1, 5) })
	b.reportIs(t, 1, 1, 7, api.Restored, []int{5, 5, 5})
	logIs(t, b.d, 1, 1, 7, 2)
	done(t, b.Halt())
	b.bootIs(t, nil)
	b.noReport(t, api.ErrIdle)
	b.beginIs(t, 2, 4, 2)
}

func TestExample4(t *testing.T) {
	b := example1(t)
	done(t, b.d.Arm(2))
	b.beginFails(t, 1, 7, api.ErrDown)
	is(t, "Up", b.Up(), false)
	b.d.Crash(9, 0)
	costs(t, "Boot", b.d, 2, func() { b.bootIs(t, nil) })
	is(t, "job.new", there(b.d, "job.new"), false)
	b.beginIs(t, 1, 7, 1)
	for keep, want := range map[int][]api.Msg{9: messages(back, 3, 1, 0), 0: nil} {
		b := example1(t)
		done(t, b.d.Arm(4))
		b.beginFails(t, 1, 7, api.ErrDown)
		b.d.Crash(keep, 0)
		b.bootIs(t, want)
	}
}

func TestExample5(t *testing.T) {
	for _, keep := range []int{9, 0} {
		b := example2(t)
		list, e := b.answered(t, fetch, 1, 7)
		sent(t, "three Fetched", list, e, messages(swap, 3, 1, 7))
		b.takeIs(t, reply(swap, 0, 1, 7, api.OK), nil)
		b.takeIs(t, reply(swap, 1, 1, 7, api.OK), nil)
		done(t, b.d.Arm(4))
		list, e = b.Take(reply(swap, 2, 1, 7, api.OK))
		notSent(t, "the last Swapped", list, e, api.ErrDown)
		is(t, "Up", b.Up(), false)
		b.d.Crash(keep, 0)
		if keep == 0 {
			b.bootIs(t, messages(back, 3, 1, 0))
			continue
		}
		b.bootIs(t, nil)
		b.beginIs(t, 1, 8, 2)
	}
}

func TestExample6(t *testing.T) {
	b := example1(t)
	list, e := b.Begin(3, 0)
	sent(t, "Begin(3, 0)", list, e, []api.Msg{
		{Kind: api.MsgAsk, From: 64, To: 0, Id: 1},
		{Kind: api.MsgAsk, From: 64, To: 1, Id: 1},
		{Kind: api.MsgAsk, From: 64, To: 2, Id: 1},
	})
	logIs(t, b.d, 1, 3, 0, 3)
	done(t, b.Halt())
	b.bootIs(t, nil)
	b.beginIs(t, 3, 0, 2)
	b = example1(t)
	b.beginIs(t, 3, 0, 1)
	costs(t, "three Told", b.d, 0, func() { b.ends(t, look, 1, 7) })
	b.reportIs(t, 1, 3, 0, api.Succeeded, []int{7, 7, 7})
}

func TestExample7(t *testing.T) {
	b := over(t, east(), fresh(t, 60))
	b.bootIs(t, nil)
	costs(t, "Begin", b.d, 2, func() { b.beginFails(t, 1, 7, api.ErrFull) })
	is(t, "Up", b.Up(), true)
	is(t, "Busy", b.Busy(), false)
	b.beginFails(t, 1, 7, api.ErrFull)
	is(t, "the log's size", len(logText(1, 1, 7, 0)), 63)
}

func TestExample8(t *testing.T) {
	good := logText(1, 1, 7, 0)
	for text, want := range map[string]api.Errno{
		strings.Replace(good, "number 1", "number 01", 1):  api.ErrForm,
		strings.Replace(good, "outcome 0", "outcome 1", 1): api.ErrSum,
		logText(1, 4, 7, 0): api.ErrField,
		logText(1, 3, 0, 0): api.ErrField,
		"":                  api.ErrForm,
		sealed("granary job 1\nnumber 01\nkind 1\nversion 7\noutcome 0\n"): api.ErrForm,
	} {
		d := fresh(t, 4096)
		put(t, d, "job", text)
		over(t, east(), d).bootFails(t, want)
	}
	d := fresh(t, 4096)
	done(t, d.Mkdir("job"))
	over(t, east(), d).bootFails(t, api.ErrKind)
}

func TestExample9(t *testing.T) {
	b := example2(t)
	costs(t, "Stop", b.d, 0, func() { b.stopIs(t, messages(back, 3, 1, 0)) })
	for tick := 1; tick <= 6; tick++ {
		var want []api.Msg
		if tick == 2 || tick == 4 {
			want = messages(back, 3, 1, 0)
		}
		costs(t, "Tick", b.d, []int{6: 5}[tick], func() { b.tickIs(t, want) })
	}
	b.reportIs(t, 1, 1, 7, api.Incomplete, []int{-1, -1, -1}, 0, 1, 2)
	logIs(t, b.d, 1, 1, 7, 3)
}

func TestExample10(t *testing.T) {
	b := example1(t)
	done(t, b.d.Arm(0))
	b.tickIs(t, nil)
	b = example2(t)
	b.stopIs(t, messages(back, 3, 1, 0))
	done(t, b.d.Arm(0))
	for range 5 {
		_, e := b.Tick()
		is(t, "Tick", e, api.OK)
	}
	list, e := b.Tick()
	notSent(t, "the last Tick", list, e, api.ErrDown)
	is(t, "Up", b.Up(), false)
}

func TestReadme(t *testing.T) {
	b := over(t, east(), fresh(t, 4096))
	b.bootIs(t, nil)
	b.beginIs(t, api.JobSwap, 7, 1)
	text, e := b.d.Read("job", 0, 4096)
	is(t, "the log", e, api.OK)
	is(t, "the log", text, "granary job 1\nnumber 1\nkind 1\nversion 7\noutcome 0\nsum f42a6ac6\n")
	b.takeIs(t, reply(fetch, 0, 1, 7, api.OK), nil)
	b.d.Crash(0, 0)
	done(t, b.Halt())
	b.bootIs(t, messages(back, 3, 1, 0))
	b.ends(t, back, 1, 6)
	b.reportIs(t, 1, api.JobSwap, 7, api.Restored, []int{6, 6, 6})
	b.beginIs(t, api.JobBack, 5, 2)
	b.takeIs(t, reply(swap, 0, 2, 5, api.OK), nil)
	b.takeIs(t, reply(swap, 1, 2, 5, api.OK), nil)
	done(t, b.d.Arm(3))
	list, e := b.Take(reply(swap, 2, 2, 5, api.OK))
	notSent(t, "the last Swapped", list, e, api.ErrDown)
	is(t, "Up", b.Up(), false)
	b.d.Crash(0, 0)
	other := over(t, east(), b.d)
	other.bootIs(t, messages(back, 3, 2, 0))
}
