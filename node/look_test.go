package node

import (
	"testing"

	"granary/api"
)

// P14.11

func TestLook(t *testing.T) {
	c := east()
	c.Block = 10
	files := stock(t, c, 1, 3)
	b := with(t, c, 1, api.Pointer{Cur: 2, Prev: 1, Epoch: 5, Seq: 3}, 1, 2)
	has := api.State{Cur: 2, Prev: 1, Epoch: 5, Seq: 3, Have: []int{1, 2}}
	want := api.NodeView{Id: 1, Up: true, Has: has}
	look := func(what string) {
		t.Helper()
		calm(t, what, b.d, func() {
			same(t, what, b.Look(), want)
			same(t, what+", again", b.Look(), want)
		})
	}
	look("no fetch")
	b.posts(t, order(7, 3))
	b.posts(t, ask())
	want.Inbox = 2
	look("two frames wait")
	b.Turn()
	want.Inbox, want.Fetch = 1, after(3)
	look("after the manifest")
	b.Turn()
	want.Inbox = 0
	b.wants(t)
	look("it is asked for")
	silent(t, "lost", b.Feed(api.ErrLost, "", 0))
	look("behind a failure")
	b.wants(t)
	silent(t, "the manifest", b.feeds(files["manifest"]))
	want.Partial = []int{3}
	look("a job")
	w := b.wants(t)
	look("a block is asked for")
	silent(t, "a block", b.feeds(piece(files, w)))
	want.Fetch.At, want.Fetch.Got = w.Size, w.Size
	if w.Size == len(files[w.File]) {
		t.Fatalf("the first file has one block: %+v", w)
	}
	look("a block has come")
	for b.Look().Fetch.File == 0 {
		silent(t, "a block", b.fed(t, files))
	}
	want.Fetch.File, want.Fetch.At, want.Fetch.Got = 1, 0, len(files[w.File])
	look("a file has come")
	put(t, b.d, "store/fetch-10/x", "x")
	put(t, b.d, "store/fetch-9/x", "x")
	want.Partial = []int{3, 9, 10}
	look("partial directories")
	down(t, b.d)
	want.Partial = nil
	look("a disk that is down")
	silent(t, "Turn", b.Turn())
	want = api.NodeView{Id: 1}
	look("not up")
}

// What is fetched whole is among what it has, and among what is partial no more.
func TestLookBehindAFetch(t *testing.T) {
	b := alone(t)
	b.fetches(t, order(1, 9))
	b.fetches(t, order(1, 10))
	b.fetches(t, order(1, 2))
	same(t, "Look", b.Look(), api.NodeView{Up: true, Has: api.State{Have: []int{2, 9, 10}}})
	b.answers(t, "MsgSwap", swap(9, 1, 1), api.Msg{Kind: api.MsgSwapped, Epoch: 1, Seq: 1, Version: 9})
	same(t, "Look", b.Look(), api.NodeView{Up: true, Has: api.State{Cur: 9, Epoch: 1, Seq: 1, Have: []int{2, 9, 10}}})
}
