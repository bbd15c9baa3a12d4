package node

import (
	"fmt"
	"testing"

	"granary/api"
	"granary/digest"
)

// P14.3

// falls holds that a call finds the disk down: nothing goes out, and all that was in memory is gone.
func falls(t *testing.T, what string, b *bench, call func() []string) {
	t.Helper()
	is(t, what+": Up ahead", b.Up(), true)
	silent(t, what, call())
	isOff(t, what, b.Node, b.id)
	is(t, what+": Boot", b.Boot(), api.ErrDown)
	isOff(t, what, b.Node, b.id)
	b.d.Crash(0, 0)
	is(t, what+": Boot", b.Boot(), api.OK)
	view := b.Look()
	is(t, what+": Inbox", view.Inbox, 0)
	is(t, what+": Fetch", view.Fetch, api.FetchState{})
}

// The disk is down ahead of the call: of one that does nothing, too.
func TestDiskIsDownAhead(t *testing.T) {
	files := stock(t, east(), 1, 3)
	readies := map[string]func(b *bench){
		"nothing":                   func(b *bench) {},
		"after the manifest":        func(b *bench) { b.takes(t, "MsgFetch", order(2, 3)) },
		"the manifest is asked for": func(b *bench) { b.takes(t, "MsgFetch", order(2, 3)); b.wants(t) },
		"a job":                     func(b *bench) { b.begun(t, order(2, 3)) },
		"a block is asked for":      func(b *bench) { b.begun(t, order(2, 3)); b.wants(t) },
	}
	for what, ready := range readies {
		frames := []string{"", "x", framed(t, api.Msg{Kind: api.MsgPing, To: 2}), framed(t, api.Msg{Kind: api.MsgPong, To: 1})}
		for _, m := range full(64, 1) {
			frames = append(frames, framed(t, m))
		}
		for _, text := range frames {
			b := with(t, east(), 1, ones(2, 1), 1, 2)
			ready(b)
			done(t, b.Post(text), b.Post("more"))
			down(t, b.d)
			falls(t, what+", a Turn", b, b.Turn)
		}
		b := with(t, east(), 1, ones(2, 1), 1, 2)
		ready(b)
		down(t, b.d)
		falls(t, what+", a Turn without a frame", b, b.Turn)
		for _, code := range codes() {
			for _, text := range []string{"", files["manifest"], files["0_1_0.data"]} {
				b := with(t, east(), 1, ones(2, 1), 1, 2)
				ready(b)
				down(t, b.d)
				falls(t, what+", a Feed", b, func() []string { return b.Feed(code, text, digest.CRC(text)) })
			}
		}
	}
}

// Other calls do not look at the disk: the node is up till the next Turn or Feed.
func TestDiskIsDownAndNothingAsks(t *testing.T) {
	b := with(t, east(), 1, ones(2, 1), 1, 2)
	b.begun(t, order(2, 3))
	w := b.wants(t)
	down(t, b.d)
	for range 3 {
		is(t, "Up", b.Up(), true)
		is(t, "Post", b.Post("x"), api.OK)
		is(t, "Tick", b.Tick(), api.OK)
		is(t, "Boot", b.Boot(), api.ErrOn)
		b.wantIs(t, "Want", w, api.OK)
		is(t, "Look", b.Look().Up, true)
	}
	is(t, "Halt", b.Halt(), api.OK)
	isOff(t, "halted", b.Node, 1)
	b.d.Crash(0, 0)
	done(t, b.Boot())
	b.serves(t, "a boot", 2)
}

// A disk that is armed, and does no act, is not down.
func TestDiskIsArmed(t *testing.T) {
	b := with(t, east(), 1, ones(2, 1), 1, 2)
	b.begun(t, order(2, 3))
	b.wants(t)
	done(t, b.d.Arm(0))
	b.serves(t, "armed", 2)
	b.answers(t, "MsgAsk", ask(), told(2, 1, 1, 1))
	b.answers(t, "an order that is the fence", swap(2, 1, 1), api.Msg{Kind: api.MsgSwapped, Epoch: 1, Seq: 1, Version: 2, Prev: 1})
	b.answers(t, "an order that is refused", swap(9, 2, 1), api.Msg{Kind: api.MsgSwapped, Epoch: 2, Seq: 1, Version: 2, Prev: 1, Code: api.ErrAbsent})
	b.answers(t, "what it has", order(2, 2), ended(2, 2, api.OK))
	b.takes(t, "taken over", order(3, 3))
	silent(t, "a block that is spoilt", b.Feed(api.OK, "x", 0))
	is(t, "Up", b.Up(), true)
	b.takes(t, "one act", swap(1, 2, 1))
	is(t, "Up", b.Up(), false)
}

// The disk goes down at the last act: all was done, but that is not told.
func TestDiskGoesDownAtTheLastAct(t *testing.T) {
	for _, x := range []struct {
		what string
		acts int
		m    api.Msg
	}{{"MsgSwap", 5, swap(1, 2, 1)}, {"MsgBack", 5, back(1, 2)}} {
		for k := range x.acts + 1 {
			b := with(t, east(), 1, ones(2, 1), 1, 2)
			done(t, b.d.Arm(k))
			frames := b.does(t, x.m)
			is(t, fmt.Sprint(x.what, ", armed with ", k, ": frames"), len(frames), k/x.acts)
			is(t, fmt.Sprint(x.what, ", armed with ", k, ": Up"), b.Up(), k == x.acts)
			is(t, fmt.Sprint(x.what, ", armed with ", k, ": Down"), b.d.Down(), k < x.acts)
		}
	}
}
