package node

import (
	"fmt"
	"slices"
	"testing"

	"granary/api"
)

// P14.1: whose memory is whose; two nodes; hard arguments.

// scribble writes over a list, and behind its end as far as its memory goes.
func scribble[T any](list []T, with T) {
	all := list[:cap(list)]
	for i := range all {
		all[i] = with
	}
	_ = append(list, with)
}

// Whoever gets a list may write into it and append to it.
func TestListsAreNew(t *testing.T) {
	b := with(t, east(), 1, ones(2, 1), 1, 2)
	put(t, b.d, "store/fetch-8/x", "x")
	put(t, b.d, "store/fetch-9/x", "x")
	for range 3 {
		view := b.Look()
		same(t, "Has", view.Has, api.State{Cur: 2, Prev: 1, Epoch: 1, Seq: 1, Have: []int{1, 2}})
		same(t, "Partial", view.Partial, []int{8, 9})
		twin := b.Look()
		scribble(view.Has.Have, 77)
		same(t, "another list of the same answer", view.Partial, []int{8, 9})
		scribble(view.Partial, 78)
		same(t, "the other answer", twin.Has.Have, []int{1, 2})
		same(t, "the other answer", twin.Partial, []int{8, 9})
	}
	b.posts(t, ask())
	b.posts(t, ask())
	one, other := b.Turn(), b.Turn()
	want := slices.Clone(other)
	scribble(one, "scribbled")
	same(t, "Turn", other, want)
	b.answers(t, "Turn", ask(), told(2, 1, 1, 1))
	b.takes(t, "MsgFetch", order(2, 3))
	b.wants(t)
	fed := b.Feed(api.ErrUnbuilt, "", 0)
	b.hears(t, "Feed", fed, order(2, 3), ended(2, 3, api.ErrUnbuilt))
	scribble(fed, "scribbled")
	b.takes(t, "MsgFetch", order(2, 3))
	b.wants(t)
	b.hears(t, "Feed", b.Feed(api.ErrUnbuilt, "", 0), order(2, 3), ended(2, 3, api.ErrUnbuilt))
	// What has nothing to say may be appended to as well.
	scribble(b.Turn(), "scribbled")
	scribble(b.Feed(api.OK, "", 0), "scribbled")
	silent(t, "Turn", b.Turn())
	silent(t, "Feed", b.Feed(api.OK, "", 0))
}

// roomy is E with more behind its lists, and what tells all of its memory.
func roomy() (api.Cluster, func() string) {
	nodes := append(east().Nodes, api.NodeDef{Parts: []int{7}}, api.NodeDef{Zone: 5})
	parts := []int{0, 2, 40, 41}
	nodes[0].Parts = parts[:2]
	c := east()
	c.Nodes = nodes[:3]
	return c, func() string { return fmt.Sprint(nodes, parts) }
}

// lives lets a node fetch, swap, serve, crash and boot.
func lives(t *testing.T, b *bench) {
	t.Helper()
	b.fetches(t, order(1, 1))
	b.answers(t, "MsgSwap", swap(1, 1, 1), api.Msg{Kind: api.MsgSwapped, Epoch: 1, Seq: 1, Version: 1})
	b.serves(t, "version 1", 1)
	b.crash(t, 0, 0)
	b.serves(t, "version 1", 1)
	b.fetches(t, order(2, 2))
	b.answers(t, "MsgSwap", swap(2, 2, 1), api.Msg{Kind: api.MsgSwapped, Epoch: 2, Seq: 1, Version: 2, Prev: 1})
	b.serves(t, "version 2", 2)
	b.answers(t, "MsgBack", back(2, 2), api.Msg{Kind: api.MsgBacked, Epoch: 2, Seq: 2, Version: 1, Prev: 1})
	b.again(t)
	b.serves(t, "version 1", 1)
}

func TestClusterIsNotChanged(t *testing.T) {
	c, look := roomy()
	before := look()
	b := made(t, c, 1, fresh(t, 100000))
	b.c = east()
	done(t, b.Boot())
	lives(t, b)
	is(t, "the cluster", look(), before)
	for e, c := range wrongClusters() {
		text := fmt.Sprint(c)
		newIs(t, "a wrong one", c, 1, fresh(t, 10), e)
		is(t, "a wrong one", fmt.Sprint(c), text)
	}
}

// What its holder does with the cluster's lists later makes no difference: ahead of the first Boot, and behind it.
func TestClusterIsNotKept(t *testing.T) {
	for _, change := range []func(c api.Cluster){
		func(c api.Cluster) { c.Nodes[0].Parts[0], c.Nodes[0].Parts[1], c.Nodes[1].Parts[0] = 9, 9, 9 },
		func(c api.Cluster) { clear(c.Nodes) },
		func(c api.Cluster) {
			for i := range c.Nodes { // the same partitions, in other hands
				c.Nodes[i] = api.NodeDef{Parts: [][]int{{1}, {3}, {0, 2}}[i]}
			}
		},
	} {
		for _, booted := range []bool{false, true} {
			c, _ := roomy()
			b := made(t, c, 1, fresh(t, 100000))
			b.c = east()
			if booted {
				done(t, b.Boot())
			}
			change(c)
			if !booted {
				done(t, b.Boot())
			}
			lives(t, b)
		}
	}
}

// Two nodes on two disks, in turns: neither feels the other.
func TestTwoNodes(t *testing.T) {
	one, other := at(t, east(), 1), at(t, east(), 0)
	script := func(b *bench) []func() {
		files, m := stock(t, east(), b.id, 1), order(3, 1)
		list := []func(){
			func() { b.takes(t, "MsgFetch", m) },
			func() { b.wantsManifest(t, "first", 1) },
			func() { silent(t, "lost", b.Feed(api.ErrLost, "", 0)) },
			func() { b.wantIs(t, "it waits", api.Want{}, api.ErrWait) },
			func() { done(t, b.Tick()) },
			func() { silent(t, "the manifest", b.fed(t, files)) },
			func() { silent(t, "a block", b.fed(t, files)) },
			func() { b.posts(t, ask()) },
			func() { is(t, "Inbox", b.Look().Inbox, 1) },
			func() { b.hears(t, "MsgTold", b.Turn(), ask(), told(0, 0, 0, 0)) },
			func() {
				frames, _ := b.pulls(t, files)
				b.hears(t, "MsgFetched", frames, m, ended(3, 1, api.OK))
			},
			func() {
				b.answers(t, "MsgSwap", swap(1, 3, 1), api.Msg{Kind: api.MsgSwapped, Epoch: 3, Seq: 1, Version: 1})
			},
			func() { b.serves(t, "served", 1) },
			func() { done(t, b.d.Arm(1)); b.takes(t, "MsgBack", back(3, 2)); is(t, "Up", b.Up(), false) },
			func() { b.d.Crash(0, 0); done(t, b.Boot()) },
			func() { b.answers(t, "MsgAsk", ask(), told(1, 0, 3, 1)) },
			func() { done(t, b.Halt()) },
		}
		return list
	}
	first, second := script(one), script(other)
	lag := 5 // the other one comes behind
	for i := range len(first) + lag {
		if i < len(first) {
			view := other.Look()
			calm(t, "the other", other.d, first[i])
			same(t, "the other", other.Look(), view)
		}
		if i >= lag {
			view := one.Look()
			calm(t, "the one", one.d, second[i-lag])
			same(t, "the one", one.Look(), view)
		}
	}
}

// P14.1: hard arguments at every call, at every place that a node may be at; each call ends, and none panics.
func TestHardArguments(t *testing.T) {
	files := stock(t, east(), 1, 3)
	numbers := []int{leastInt, leastInt + 1, -1, 0, 1, 63, 86, 143, 1 << 31, 1 << 32, most, mostInt - 1, mostInt}
	for _, ready := range []func(b *bench){
		func(b *bench) {},
		func(b *bench) { b.takes(t, "MsgFetch", order(2, 3)); b.wants(t) },
		func(b *bench) { b.begun(t, order(2, 3)); b.wants(t) },
		func(b *bench) { b.Halt() },
	} {
		for _, code := range numbers {
			for _, crc := range numbers {
				b := with(t, east(), 1, ones(2, 1), 1, 2)
				ready(b)
				b.Feed(api.Errno(code), files["manifest"], crc)
				b.Want()
				b.Feed(api.Errno(crc), "x", code)
				b.Tick()
				b.Want()
				b.Feed(api.OK, "", crc)
				b.Look()
				b.Turn()
			}
		}
	}
	for _, a := range numbers {
		for _, bb := range numbers { // messages with the greatest numbers that a frame takes
			b := with(t, small(2), 0, ones(2, 1), 1, 2)
			a, bb := max(0, min(a, most)), max(0, min(bb, most))
			for _, m := range []api.Msg{
				{Kind: api.MsgSwap, Id: a, Epoch: bb, Seq: a, Version: bb}, {Kind: api.MsgSwap, Epoch: a, Seq: bb, Version: 1},
				{Kind: api.MsgFetch, Id: bb, Epoch: a, Version: bb}, {Kind: api.MsgFetch, Epoch: a, Version: 5},
				{Kind: api.MsgSum, Seq: a, Version: bb}, {Kind: api.MsgScan, Seq: a, Version: 2, Prev: bb}, {Kind: api.MsgScan, Seq: 0, Version: a, Prev: bb},
				{Kind: api.MsgBack, Epoch: bb, Seq: a}, {Kind: api.MsgAsk, Id: a}, {Kind: api.MsgPing, Id: bb},
			} {
				b.does(t, m)
				b.Want()
			}
		}
	}
}
