package node

import (
	"fmt"
	"testing"

	"granary/api"
	"granary/disk"
)

// P14.2

func wrongClusters() map[api.Errno]api.Cluster {
	all := map[api.Errno]api.Cluster{}
	for e, change := range map[api.Errno]func(c *api.Cluster){
		api.ErrName:    func(c *api.Cluster) { c.Store = "" },
		api.ErrSetting: func(c *api.Cluster) { c.Tries = 65 },
		api.ErrNodes:   func(c *api.Cluster) { c.Nodes = nil },
		api.ErrParts:   func(c *api.Cluster) { c.Nodes[1].Parts = []int{4} },
		api.ErrCopies:  func(c *api.Cluster) { c.Replicas = 4 },
		api.ErrBig: func(c *api.Cluster) {
			c.Chunks = 16
			for p := range 13 {
				c.Nodes[2].Parts = append(c.Nodes[2].Parts, 4+p)
			}
		},
	} {
		c := east()
		change(&c)
		all[e] = c
	}
	return all
}

func newIs(t *testing.T, what string, c api.Cluster, id int, d *disk.Disk, want api.Errno) {
	t.Helper()
	if n, e := New(c, id, d); (n != nil) != (want == api.OK) || e != want {
		t.Errorf("%s: New = %v, %d, want %d", what, n != nil, e, want)
	}
}

func TestNewIsRefused(t *testing.T) {
	d := fresh(t, 100)
	for _, id := range []int{leastInt, -1, 3, 15, 16, 64, mostInt} {
		newIs(t, "no such node", east(), id, d, api.ErrNode)
		newIs(t, "no disk, and no such node", east(), id, nil, api.ErrNil)
		newIs(t, "no disk, and no cluster", api.Cluster{}, id, nil, api.ErrNil)
	}
	for id := range 3 {
		newIs(t, "a node", east(), id, d, api.OK)
		newIs(t, "no disk", east(), id, nil, api.ErrNil)
	}
	for e, c := range wrongClusters() {
		for _, id := range []int{leastInt, -1, 0, 1, 3, mostInt} { // the cluster is told ahead of the node
			newIs(t, "a wrong cluster", c, id, d, e)
			newIs(t, "a wrong cluster, and no disk", c, id, nil, api.ErrNil)
		}
	}
}

// All that New makes is a node that is not up: it asks nothing of the disk, and boots nothing.
func TestNewAsksNothingOfTheDisk(t *testing.T) {
	d := fresh(t, 100000)
	put(t, d, "store/version-1/x", "what a Boot takes away")
	calm(t, "New", d, func() {
		reads := d.Reads()
		b := made(t, east(), 1, d)
		is(t, "reads", d.Reads(), reads)
		is(t, "Up", b.Up(), false)
		same(t, "Look", b.Look(), api.NodeView{Id: 1})
	})
	down(t, d)
	b := made(t, east(), 1, d)
	is(t, "Boot on a disk that is down", b.Boot(), api.ErrDown)
	is(t, "Up", b.Up(), false)
	d.Crash(99, 99)
	done(t, b.Boot())
	is(t, "Up", b.Up(), true)
	no := made(t, east(), 1, new(disk.Disk)) // one that disk.New did not make
	is(t, "Boot without a disk", no.Boot(), api.ErrNil)
	is(t, "Up", no.Up(), false)
}

// isOff holds what a node that is not up answers to every call but Boot.
func isOff(t *testing.T, what string, n *Node, id int) {
	t.Helper()
	is(t, what+": Up", n.Up(), false)
	same(t, what+": Look", n.Look(), api.NodeView{Id: id})
	for _, text := range []string{"", "x", framed(t, api.Msg{Kind: api.MsgPing, To: id})} {
		is(t, what+": Post", n.Post(text), api.ErrOff)
	}
	is(t, what+": Halt", n.Halt(), api.ErrOff)
	is(t, what+": Tick", n.Tick(), api.ErrOff)
	if w, e := n.Want(); w != (api.Want{}) || e != api.ErrOff {
		t.Errorf("%s: Want = %+v, %d", what, w, e)
	}
	silent(t, what+": Turn", n.Turn())
	for _, code := range codes() {
		silent(t, what+": Feed", n.Feed(code, "x", 7))
	}
	is(t, what+": Up", n.Up(), false)
}

// codes are what a Feed may be told.
func codes() []api.Errno {
	return []api.Errno{api.OK, api.ErrUnbuilt, api.ErrLost, api.ErrDown, api.ErrBlock, -1, 1 << 40, api.Errno(mostInt), api.Errno(leastInt)}
}

func TestNotUp(t *testing.T) {
	for _, ready := range []func() *bench{
		func() *bench { return made(t, east(), 1, fresh(t, 100000)) },
		func() *bench { b := second(t); done(t, b.Halt()); return b },
		func() *bench { b := with(t, east(), 1, ones(2, 1), 1, 2); done(t, b.Halt()); return b },
		func() *bench { b := second(t); b.begun(t, order(1, 1)); b.wants(t); done(t, b.Halt()); return b },
		func() *bench {
			b := second(t)
			b.posts(t, ask())
			down(t, b.d)
			silent(t, "Turn", b.Turn())
			return b
		},
	} {
		b := ready()
		calm(t, "not up", b.d, func() { isOff(t, "not up", b.Node, 1) })
	}
}

// P14.1: a node that is not there.
func TestNil(t *testing.T) {
	for what, n := range map[string]*Node{"nil": nil, "made by nobody": new(Node)} {
		is(t, what+": Up", n.Up(), false)
		same(t, what+": Look", n.Look(), api.NodeView{})
		for _, text := range []string{"", "x", framed(t, ask())} {
			is(t, what+": Post", n.Post(text), api.ErrNil)
		}
		is(t, what+": Boot", n.Boot(), api.ErrNil)
		is(t, what+": Boot", n.Boot(), api.ErrNil)
		is(t, what+": Halt", n.Halt(), api.ErrNil)
		is(t, what+": Tick", n.Tick(), api.ErrNil)
		if w, e := n.Want(); w != (api.Want{}) || e != api.ErrNil {
			t.Errorf("%s: Want = %+v, %d", what, w, e)
		}
		silent(t, what+": Turn", n.Turn())
		for _, code := range codes() {
			for _, crc := range []int{leastInt, -1, 0, 7, mostInt} {
				silent(t, what+": Feed", n.Feed(code, "x", crc))
			}
		}
	}
}

func TestBootAndHalt(t *testing.T) {
	b := made(t, east(), 1, fresh(t, 100000))
	is(t, "Boot", b.Boot(), api.OK)
	is(t, "acts", b.d.Acts(), 2) // the store is made, by engine.Open
	calm(t, "Boot of a node that is up", b.d, func() { is(t, "Boot", b.Boot(), api.ErrOn) })
	is(t, "Up", b.Up(), true)
	same(t, "Look", b.Look(), api.NodeView{Id: 1, Up: true})
	put(t, b.d, "other", "pending")
	calm(t, "Halt", b.d, func() { is(t, "Halt", b.Halt(), api.OK) })
	is(t, "Halt again", b.Halt(), api.ErrOff)
	is(t, "Up", b.Up(), false)
	is(t, "Boot", b.Boot(), api.OK)
	is(t, "Up", b.Up(), true)
}

// A Boot that the engine refuses leaves it down; one behind it that is not refused does not.
func TestBootIsRefused(t *testing.T) {
	for _, x := range []struct {
		what string
		lie  func(d *disk.Disk)
		mend func(d *disk.Disk)
		want api.Errno
	}{
		{"the store is a file", func(d *disk.Disk) { put(t, d, "store", "") }, func(d *disk.Disk) { away(t, d, "store") }, api.ErrKind},
		{"no pointer", func(d *disk.Disk) { put(t, d, "store/latest", "x") }, func(d *disk.Disk) { away(t, d, "store/latest") }, api.ErrPointer},
		{"no current version", func(d *disk.Disk) { put(t, d, "store/latest", pointer(t, 3, 0, 1, 1)) }, func(d *disk.Disk) { lay(t, d, "store/version-3", stock(t, east(), 1, 3)) }, api.ErrCurrent},
		{"another node's version", func(d *disk.Disk) {
			put(t, d, "store/latest", pointer(t, 3, 0, 1, 1))
			lay(t, d, "store/version-3", stock(t, east(), 0, 3))
		}, func(d *disk.Disk) {
			away(t, d, "store/version-3")
			lay(t, d, "store/version-3", stock(t, east(), 1, 3))
		}, api.ErrCurrent},
		{"the disk goes down", func(d *disk.Disk) { done(t, d.Arm(1)) }, func(d *disk.Disk) { d.Crash(0, 0) }, api.ErrDown},
		{"the disk is down", func(d *disk.Disk) { down(t, d) }, func(d *disk.Disk) { d.Crash(0, 0) }, api.ErrDown},
	} {
		b := made(t, east(), 1, fresh(t, 100000))
		x.lie(b.d)
		for range 2 {
			is(t, x.what, b.Boot(), x.want)
			isOff(t, x.what, b.Node, 1)
		}
		x.mend(b.d)
		is(t, x.what+", mended", b.Boot(), api.OK)
		is(t, x.what+", mended", b.Up(), true)
		is(t, x.what+", mended", b.Boot(), api.ErrOn)
	}
}

// What it holds in memory goes when it is halted: frames that wait, the time, the fetch. What lies on the disk stays.
func TestBootBeginsAnew(t *testing.T) {
	b := with(t, east(), 1, ones(2, 1), 1, 2)
	b.begun(t, order(7, 3))
	silent(t, "a block", b.fed(t, stock(t, east(), 1, 3)))
	b.wants(t)
	for range 5 {
		b.posts(t, ask())
	}
	is(t, "Inbox", b.Look().Inbox, 5)
	ahead := b.Look()
	calm(t, "Halt", b.d, func() { done(t, b.Halt()) })
	calm(t, "Boot", b.d, func() { done(t, b.Boot()) })
	view := b.Look()
	same(t, "Has", view.Has, ahead.Has)
	same(t, "Look", view, api.NodeView{Id: 1, Up: true, Has: ahead.Has, Partial: []int{3}})
	silent(t, "Turn", b.Turn())
	b.wantIs(t, "no fetch", api.Want{}, api.ErrOver)
	silent(t, "Feed", b.feeds("x"))
	// An epoch that was stale for the fetch is not any more.
	b.takes(t, "an earlier epoch", order(2, 3))
	b.fetchIs(t, "anew", after(3))
	// The fetch goes on where it was: what is safe is not asked for again.
	silent(t, "the manifest", b.fed(t, stock(t, east(), 1, 3)))
	is(t, "Got", b.Look().Fetch.Got, ahead.Fetch.Got)
}

// The time is 0 behind a Boot: a wait is counted from there.
func TestBootSetsTheTimeBack(t *testing.T) {
	c := east()
	c.Base, c.Most = 5, 5
	b := at(t, c, 1)
	for range 1000 {
		done(t, b.Tick())
	}
	is(t, "now", b.now, 1000)
	b.again(t)
	is(t, "now", b.now, 0)
	b.takes(t, "MsgFetch", order(1, 1))
	b.wantsManifest(t, "at once", 1)
	silent(t, "a failure", b.Feed(api.ErrLost, "", 0))
	for range 5 {
		b.wantIs(t, "too early", api.Want{}, api.ErrWait)
		done(t, b.Tick())
	}
	b.wantsManifest(t, "behind five ticks", 1)
}

// A node without partitions is one, too: its versions have the papers alone.
func TestNodeWithoutPartitions(t *testing.T) {
	c := east()
	c.Nodes = append(c.Nodes, api.NodeDef{Zone: 2})
	b := at(t, c, 3)
	b.fetches(t, order(1, 1))
	b.answers(t, "MsgSwap", swap(1, 1, 1), api.Msg{Kind: api.MsgSwapped, Epoch: 1, Seq: 1, Version: 1})
	b.answers(t, "MsgGet", get("abc"), api.Msg{Kind: api.MsgGot, Key: "abc", Code: api.ErrForeign})
	is(t, "names", names(t, b.d), "latest version-1")
}

// Nodes of all numbers that a cluster may have answer to their own number alone.
func TestAllNumbers(t *testing.T) {
	c := settings("wide", 1, 1, 1)
	for i := range api.MaxNodes {
		c.Nodes = append(c.Nodes, api.NodeDef{Parts: []int{i}})
	}
	for id := range api.MaxNodes {
		b := at(t, c, id)
		is(t, "Id", b.Look().Id, id)
		for to := range api.MaxNodes {
			m := api.Msg{Kind: api.MsgPing, From: 64, To: to, Id: 3}
			done(t, b.Post(framed(t, m)))
			if frames := b.Turn(); to == id {
				b.hears(t, fmt.Sprint("node ", id), frames, m, api.Msg{Kind: api.MsgPong})
			} else {
				silent(t, fmt.Sprint("node ", id, " for ", to), frames)
			}
		}
	}
	newIs(t, "one more", c, api.MaxNodes, fresh(t, 0), api.ErrNode)
}
