package node

import (
	"fmt"
	"testing"

	"granary/api"
	"granary/builder"
	"granary/digest"
	"granary/disk"
)

// The chapter's examples: the cluster E, node 1, a disk of 100000 bytes; versions as that of chapter 8's example 3.

// exampleStock is version v for node 1.
func exampleStock(t *testing.T, v int) map[string]string {
	t.Helper()
	return stocked(t, east(), 1, v, []api.Pair{{Key: "abc", Value: "grain"}, {Key: "abc", Value: "chaff"}})
}

func TestExample1(t *testing.T) {
	d := fresh(t, 100000)
	newIs(t, "New(E, 3, d)", east(), 3, d, api.ErrNode)
	newIs(t, "New(E, 1, nil)", east(), 1, nil, api.ErrNil)
	b := made(t, east(), 1, d)
	is(t, "Up", b.Up(), false)
	_, e := b.Want()
	for _, got := range []api.Errno{b.Post("x"), b.Halt(), b.Tick(), e} {
		is(t, "not up", got, api.ErrOff)
	}
	silent(t, "Turn", b.Turn())
	is(t, "Boot", b.Boot(), api.OK)
	is(t, "Boot", b.Boot(), api.ErrOn)
	is(t, "Up", b.Up(), true)
	same(t, "Look", b.Look(), api.NodeView{Id: 1, Up: true})
}

func TestExample2(t *testing.T) {
	b := second(t)
	ping := api.Msg{Kind: api.MsgPing, From: 64, To: 1, Id: 7}
	done(t, b.Post(framed(t, ping)))
	same(t, "Turn", b.Turn(), []string{framed(t, api.Msg{Kind: api.MsgPong, From: 1, To: 64, Id: 7})})
	silent(t, "Turn", b.Turn())
	for _, text := range []string{framed(t, api.Msg{Kind: api.MsgPing, From: 64, To: 2, Id: 7}), framed(t, api.Msg{Kind: api.MsgPong, From: 64, To: 1, Id: 7}), "x"} {
		done(t, b.Post(text))
		silent(t, "Turn", b.Turn())
		is(t, "Inbox", b.Look().Inbox, 0)
	}
}

func TestExample3(t *testing.T) {
	b := second(t)
	b.answers(t, "MsgGet", get("abc"), api.Msg{Kind: api.MsgGot, Code: api.ErrEmpty, Key: "abc"})
	b.answers(t, "MsgSwap", swap(1, 1, 1), api.Msg{Kind: api.MsgSwapped, Epoch: 1, Seq: 1, Code: api.ErrAbsent})
	b.answers(t, "MsgAsk", ask(), api.Msg{Kind: api.MsgTold})
}

func TestExample4(t *testing.T) {
	b := second(t)
	for range 16 {
		is(t, "Post", b.Post("x"), api.OK)
	}
	is(t, "the seventeenth", b.Post("x"), api.ErrInbox)
	is(t, "Inbox", b.Look().Inbox, 16)
	is(t, "Halt", b.Halt(), api.OK)
	is(t, "Boot", b.Boot(), api.OK)
	is(t, "Inbox", b.Look().Inbox, 0)
}

func TestExample5(t *testing.T) {
	b := second(t)
	b.answers(t, "version 0", order(1, 0), api.Msg{Kind: api.MsgFetched, Epoch: 1, Code: api.ErrVersion})
	b.takes(t, "version 1", order(1, 1))
	b.fetchIs(t, "begun", api.FetchState{Version: 1, Phase: api.FetchRunning})
	b.wantIs(t, "the manifest", api.Want{Version: 1, File: "manifest"}, api.OK)
	same(t, "Feed", b.Feed(api.ErrUnbuilt, "", 0), []string{framed(t, api.Msg{Kind: api.MsgFetched, From: 1, To: 64, Id: 5, Epoch: 1, Version: 1, Code: api.ErrUnbuilt})})
	b.wantIs(t, "no fetch", api.Want{}, api.ErrOver)
}

// sixth is the node behind example 6.
func sixth(t *testing.T) *bench {
	t.Helper()
	b := second(t)
	files := exampleStock(t, 1)
	b.takes(t, "MsgFetch", order(1, 1))
	b.wantsManifest(t, "first", 1)
	silent(t, "the manifest", b.Feed(api.OK, files["manifest"], digest.CRC(files["manifest"])))
	b.wantIs(t, "the first block", api.Want{Version: 1, File: "0_1_0.data", At: 0, Size: 16}, api.OK)
	frames, _ := b.pulls(t, files)
	b.hears(t, "the last block", frames, order(1, 1), api.Msg{Kind: api.MsgFetched, Epoch: 1, Version: 1})
	same(t, "Look", b.Look(), api.NodeView{Id: 1, Up: true, Has: api.State{Have: []int{1}}})
	return b
}

// seventh is the node behind example 7's MsgSwap.
func seventh(t *testing.T) *bench {
	t.Helper()
	b := sixth(t)
	b.answers(t, "MsgSwap", swap(1, 1, 1), api.Msg{Kind: api.MsgSwapped, Epoch: 1, Seq: 1, Version: 1})
	return b
}

func TestExample6(t *testing.T) { sixth(t) }

func TestExample7(t *testing.T) {
	b := seventh(t)
	b.answers(t, "MsgGet", get("abc"), api.Msg{Kind: api.MsgGot, Version: 1, Key: "abc", Value: "chaff"})
	other := keyOf(t, east(), 1, true)
	b.answers(t, "MsgGet of another key", get(other), api.Msg{Kind: api.MsgGot, Version: 1, Code: api.ErrNoKey, Key: other})
	b.answers(t, "an old MsgFetch", order(0, 1), api.Msg{Kind: api.MsgFetched, Version: 1, Code: api.ErrStale})
	b.answers(t, "MsgFetch", order(1, 1), api.Msg{Kind: api.MsgFetched, Epoch: 1, Version: 1})
}

func TestExample8(t *testing.T) {
	b := seventh(t)
	taken := api.Msg{Kind: api.MsgFetch, From: 64, Id: 9, Epoch: 3, Version: 2}
	b.takes(t, "MsgFetch", order(2, 2))
	silent(t, "the manifest", b.fed(t, exampleStock(t, 2)))
	silent(t, "a block", b.fed(t, exampleStock(t, 2)))
	b.takes(t, "taken over", taken)
	b.answers(t, "epoch 2", order(2, 2), api.Msg{Kind: api.MsgFetched, Epoch: 2, Version: 2, Code: api.ErrStale})
	// What the MsgFetched will say.
	twin := seventh(t)
	twin.takes(t, "MsgFetch", order(2, 2))
	twin.takes(t, "taken over", taken)
	frames, _ := twin.pulls(t, exampleStock(t, 2))
	twin.hears(t, "MsgFetched", frames, taken, api.Msg{Kind: api.MsgFetched, Epoch: 3, Version: 2})

	b.answers(t, "MsgBack", back(3, 2), api.Msg{Kind: api.MsgBacked, Epoch: 3, Seq: 2, Version: 1, Prev: 1})
	b.fetchIs(t, "no more", api.FetchState{})
	b.partialIs(t, "it stays", 2)
	is(t, "store/fetch-2", there(b.d, "store/fetch-2"), true)
	b.takes(t, "MsgFetch of another", order(4, 3))
	b.partialIs(t, "it is swept")
	is(t, "store/fetch-2", there(b.d, "store/fetch-2"), false)
}

func TestExample9(t *testing.T) {
	b := seventh(t)
	c := east()
	b.takes(t, "MsgFetch", order(2, 2))
	for i := range c.Tries {
		b.wantsManifest(t, fmt.Sprint("try ", i), 2)
		frames := b.Feed(api.ErrLost, "", 0)
		if i == c.Tries-1 {
			b.hears(t, "the last", frames, order(2, 2), ended(2, 2, api.ErrLost))
			break
		}
		silent(t, "a failure", frames)
		for range c.Base << i {
			b.wantIs(t, "too early", api.Want{}, api.ErrWait)
			done(t, b.Tick())
		}
	}
	b.takes(t, "MsgFetch", order(2, 2))
	text := exampleStock(t, 2)["manifest"]
	for i := range c.Tries {
		b.wants(t)
		frames := b.Feed(api.OK, text, digest.CRC(text)^1)
		if i == c.Tries-1 {
			b.hears(t, "another sum", frames, order(2, 2), ended(2, 2, api.ErrBlock))
			break
		}
		silent(t, "another sum", frames)
	}
}

func TestExample10(t *testing.T) {
	b := seventh(t)
	done(t, b.d.Arm(0))
	b.takes(t, "MsgSwap", swap(1, 2, 1))
	is(t, "Up", b.Up(), false)
	b.d.Crash(0, 0)
	is(t, "Boot", b.Boot(), api.OK)
	b.answers(t, "MsgAsk", ask(), api.Msg{Kind: api.MsgTold, Epoch: 1, Seq: 1, Version: 1})
}

// What README.md shows.
func TestReadme(t *testing.T) {
	d, c := fresh(t, 100000), east()
	depot := fresh(t, 100000)
	_, e := builder.Build(depot, c, api.Job{Version: 1, Memory: 1000, FanIn: 2}, []api.Pair{{Key: "abc", Value: "new"}})
	done(t, e)
	n, e := New(c, 1, d)
	done(t, e, n.Boot(), n.Post(framed(t, api.Msg{Kind: api.MsgFetch, From: 64, To: 1, Id: 5, Epoch: 1, Version: 1})))
	is(t, "Turn", len(n.Turn()), 0)
	want, e := n.Want()
	done(t, e)
	is(t, "Want", want, api.Want{Version: 1, File: "manifest"})
	text, e := builder.Manifest(depot, 1, 1)
	is(t, "Feed", len(n.Feed(e, text, digest.CRC(text))), 0)
	want, e = n.Want()
	done(t, e)
	is(t, "Want", want, api.Want{Version: 1, File: "0_1_0.data", Size: 14})
	var out []string
	for len(out) == 0 {
		done(t, n.Tick())
		if want, e := n.Want(); e == api.OK {
			text, e := builder.Block(depot, want.Version, 1, want.File, want.At, want.Size)
			out = n.Feed(e, text, digest.CRC(text))
		}
	}
	is(t, "MsgFetched", out[0], framed(t, api.Msg{Kind: api.MsgFetched, From: 1, To: 64, Id: 5, Epoch: 1, Version: 1}))
	done(t, n.Post(framed(t, api.Msg{Kind: api.MsgSwap, From: 64, To: 1, Id: 6, Epoch: 1, Seq: 1, Version: 1})))
	n.Turn()
	done(t, n.Post(framed(t, api.Msg{Kind: api.MsgGet, From: 65, To: 1, Id: 7, Key: "abc"})))
	is(t, "MsgGot", n.Turn()[0], framed(t, api.Msg{Kind: api.MsgGot, From: 1, To: 65, Id: 7, Version: 1, Key: "abc", Value: "new"}))
	same(t, "Look", n.Look(), api.NodeView{Id: 1, Up: true, Has: api.State{Cur: 1, Epoch: 1, Seq: 1, Have: []int{1}}})
	done(t, d.Arm(3), n.Post(framed(t, api.Msg{Kind: api.MsgBack, From: 64, To: 1, Id: 8, Epoch: 1, Seq: 2})))
	is(t, "Turn", len(n.Turn()), 0)
	is(t, "Up", n.Up(), false)
	d.Crash(0, 0)
	done(t, n.Boot())
	is(t, "Cur", n.Look().Has.Cur, 1)
	is(t, "names", disk.Path("store", names(t, d)), "store/latest version-1")
}
