package node

import (
	"strings"
	"testing"
	"unsafe"

	"granary/api"
)

// P14.4

func TestPostTillFull(t *testing.T) {
	b := second(t)
	for i := range api.MaxInbox {
		is(t, "Inbox", b.Look().Inbox, i)
		is(t, "Post", b.Post(framed(t, api.Msg{Kind: api.MsgPing, From: i, To: 1, Id: i})), api.OK)
	}
	for _, text := range []string{"", "x", framed(t, ask())} {
		is(t, "one more", b.Post(text), api.ErrInbox)
	}
	is(t, "Inbox", b.Look().Inbox, 16)
	// They come out in the order in which they went in, and what was refused is not among them.
	for i := range api.MaxInbox {
		b.hears(t, "in order", b.Turn(), api.Msg{From: i, Id: i}, api.Msg{Kind: api.MsgPong})
		is(t, "Inbox", b.Look().Inbox, 15-i)
	}
	silent(t, "nothing waits", b.Turn())
	is(t, "Inbox", b.Look().Inbox, 0)
}

// One is taken out, one goes in: the order stays.
func TestPostBetweenTurns(t *testing.T) {
	b := second(t)
	for i := range 10 {
		b.posts(t, api.Msg{Kind: api.MsgPing, Id: i})
	}
	for i := range 100 {
		b.posts(t, api.Msg{Kind: api.MsgPing, Id: 10 + i})
		b.hears(t, "in order", b.Turn(), api.Msg{Id: i}, api.Msg{Kind: api.MsgPong})
	}
	for range 6 {
		b.posts(t, ask())
	}
	is(t, "full", b.Post("x"), api.ErrInbox)
	b.Turn()
	is(t, "not full any more", b.Post("x"), api.OK)
	is(t, "full", b.Post("x"), api.ErrInbox)
}

// A frame waits whatever it is, and nothing is done ahead of its turn.
func TestPostTakesAnything(t *testing.T) {
	b := with(t, east(), 1, ones(2, 1), 1, 2)
	calm(t, "Post", b.d, func() {
		for _, text := range []string{"", "x", strings.Repeat("y", 100000), framed(t, api.Msg{Kind: api.MsgSwap, To: 1, Epoch: 2, Seq: 1, Version: 1}), framed(t, api.Msg{Kind: api.MsgPing, To: 2})} {
			is(t, "Post", b.Post(text), api.OK)
		}
	})
	is(t, "Inbox", b.Look().Inbox, 5)
	b.stateIs(t, "as it was", 2, 1, 1, 1, 1, 2)
	b.fetchIs(t, "none", api.FetchState{})
}

// A frame is not kept as a piece of its holder's text.
func TestPostCopies(t *testing.T) {
	b := second(t)
	text := strings.Repeat("z", 1000)
	done(t, b.Post(text[10:12]))
	got := <-b.inbox
	is(t, "the frame", got, "zz")
	if unsafe.StringData(got) == unsafe.StringData(text[10:12]) {
		t.Error("it lies within the long text")
	}
}

// A disk that is down does not keep frames from waiting.
func TestPostWithoutDisk(t *testing.T) {
	b := second(t)
	down(t, b.d)
	is(t, "Post", b.Post("x"), api.OK)
	is(t, "Inbox", b.Look().Inbox, 1)
	is(t, "Up", b.Up(), true)
}
