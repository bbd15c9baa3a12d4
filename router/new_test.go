package router

import (
	"fmt"
	"slices"
	"testing"

	"granary/api"
	"granary/ring"
)

// P17.1

// wrongClusters are some that are not valid, by the error of each.
func wrongClusters() map[api.Errno]api.Cluster {
	list := map[api.Errno]api.Cluster{api.ErrName: {}}
	for e, change := range map[api.Errno]func(c *api.Cluster){
		api.ErrSetting: func(c *api.Cluster) { c.GetWait = 0 },
		api.ErrNodes:   func(c *api.Cluster) { c.Nodes = nil },
		api.ErrParts:   func(c *api.Cluster) { c.Nodes[1].Parts = []int{2} },
		api.ErrCopies:  func(c *api.Cluster) { c.Replicas = 4 },
		api.ErrBig: func(c *api.Cluster) {
			c.Chunks, c.Nodes[0].Parts, c.Nodes[1].Parts, c.Nodes[2].Parts = 16, upto(17), nil, []int{17}
		},
	} {
		c := east()
		change(&c)
		list[e] = c
	}
	return list
}

func newIs(t *testing.T, c api.Cluster, want api.Errno) {
	t.Helper()
	r, e := New(c)
	is(t, "New", e, want)
	is(t, "New: a router", r != nil, want == api.OK)
}

func TestNewOfWrongClusters(t *testing.T) {
	for want, c := range wrongClusters() {
		is(t, "the cluster", ring.Check(c), want)
		newIs(t, c, want)
	}
	c := east()
	c.Nodes = make([]api.NodeDef, 17)
	newIs(t, c, api.ErrNodes)
	c = zoned(east(), 0, 0, 8)
	newIs(t, c, api.ErrNodes)
	c.Replicas = 9
	newIs(t, c, api.ErrNodes)
	c.Ban = 0
	newIs(t, c, api.ErrSetting)
	c.Store = "East"
	newIs(t, c, api.ErrName)
}

// The settings that the router goes by, at their ends and past them.
func TestNewAtTheSettingsEnds(t *testing.T) {
	for _, x := range []struct {
		wait, strikes, ban, home int
		want                     api.Errno
	}{
		{1, 1, 1, 0, api.OK}, {1024, 64, 1024, 7, api.OK},
		{0, 1, 1, 0, api.ErrSetting}, {1, 0, 1, 0, api.ErrSetting}, {1, 1, 0, 0, api.ErrSetting}, {1, 1, 1, -1, api.ErrSetting},
		{1025, 64, 1024, 7, api.ErrSetting}, {1024, 65, 1024, 7, api.ErrSetting}, {1024, 64, 1025, 7, api.ErrSetting}, {1024, 64, 1024, 8, api.ErrSetting},
		{mostInt, 1, 1, 0, api.ErrSetting}, {1, leastInt, 1, 0, api.ErrSetting}, {1, 1, mostInt, 0, api.ErrSetting}, {1, 1, 1, leastInt, api.ErrSetting},
	} {
		c := east()
		c.GetWait, c.Strikes, c.Ban, c.Home = x.wait, x.strikes, x.ban, x.home
		newIs(t, c, x.want)
	}
}

// Without gets, and nothing comes about by itself: the tickets begin with 1, the time with 0, nobody is pinged.
func TestNewHasNoGets(t *testing.T) {
	for _, c := range []api.Cluster{east(), round(1, 1, 1, 1, 1), round(16, 16, 3, 1, 1024), round(16, 1, 2, 64, 1)} {
		r := made(t, c)
		openIs(t, r, 0)
		silentAre(t, r)
		for _, ticket := range []int{-1, 0, 1, 2} {
			for _, code := range []api.Errno{api.OK, api.ErrNoKey, api.ErrEmpty} {
				takeIs(t, r, got(0, ticket, "abc", code, 7, "v"), nil, nil)
				takeIs(t, r, got(0, ticket, "", code, 7, "v"), nil, nil)
			}
		}
		wait(t, r, 60)
		openIs(t, r, 0)
		key := keyIn(t, c, 0)
		n, list, e := r.Get(key)
		if n != 1 || len(list) != 1 || e != api.OK {
			t.Errorf("the first Get = %d, %+v, %d", n, list, e)
		}
	}
}

// The time is 0 at first: the first ping says it.
func TestNewBeginsAtTheTime0(t *testing.T) {
	for _, time := range []int{1, 2, 3, 5, 1024} {
		c := round(2, 1, time, 1, 1024)
		r, key := made(t, c), keyIn(t, c, 1)
		getIs(t, r, key, 1, 1)
		wait(t, r, time-1)
		tickIs(t, r, out(ping(1, time)), ends(unanswered(1, key)))
	}
}

// The detector has all nodes, and the cluster's strikes and ban: the pings show who is silent, and how long.
func TestNewTakesItsNumbers(t *testing.T) {
	for _, n := range []int{1, 2, 3, 16} {
		for _, strikes := range []int{1, 2, 63, 64} {
			for _, ban := range []int{1, 2, 7, 1024} {
				c := round(n, 1, 1, strikes, ban)
				r, node := made(t, c), n-1
				key := keyIn(t, c, node)
				for i := range strikes {
					getIs(t, r, key, i+1, node)
					if i+1 < strikes {
						tickIs(t, r, nil, ends(unanswered(i+1, key)))
					}
				}
				tickIs(t, r, out(ping(node, strikes)), ends(unanswered(strikes, key)))
				for i := range ban - 1 {
					tickIs(t, r, out(ping(node, strikes+i+1)), nil)
				}
				tickIs(t, r, nil, nil)
				takeFails(t, r, pong(n, 0), api.ErrNode)
			}
		}
	}
}

// A router that New did not make is answered as one that is not there.
func TestNoRouter(t *testing.T) {
	for what, r := range map[string]*Router{"nil": nil, "not made": new(Router)} {
		for range 2 {
			openIs(t, r, 0)
			for _, key := range []string{"", "abc", string(make([]byte, 256))} {
				getFails(t, r, key, api.ErrNil)
				getAllFails(t, r, []string{key}, api.ErrNil)
				getAllFails(t, r, []string{key, "abc"}, api.ErrNil)
			}
			getAllFails(t, r, nil, api.ErrNil)
			getAllFails(t, r, []string{}, api.ErrNil)
			getAllFails(t, r, slices.Repeat([]string{"k"}, 65), api.ErrNil)
			for _, m := range []api.Msg{{}, got(0, 1, "abc", api.OK, 7, "v"), pong(0, 1), pong(-1, 1), ask(0, 1, "abc"), {Kind: leastInt, To: mostInt}} {
				takeFails(t, r, m, api.ErrNil)
			}
			list, over, e := r.Tick()
			if len(list) != 0 || len(over) != 0 || e != api.ErrNil {
				t.Errorf("%s: Tick = %v, %v, %d", what, list, over, e)
			}
		}
	}
}

// roomy is E with more behind its lists, and what tells all of its memory.
func roomy() (api.Cluster, func() string) {
	nodes := append(east().Nodes, api.NodeDef{Parts: []int{7}}, api.NodeDef{Zone: 5})
	parts := []int{0, 2, 40, 41}
	nodes[0].Parts = parts[:2]
	c := east()
	c.Nodes = nodes[:3]
	return c, func() string { return fmt.Sprint(nodes, parts) }
}

// What its holder does with the cluster's lists behind New makes no difference.
func TestClusterIsNotKept(t *testing.T) {
	want := life(t, made(t, east()), func([]api.Msg, []api.Outcome) {})
	for i, spoil := range []func(c api.Cluster){
		func(c api.Cluster) {},
		func(c api.Cluster) { c.Nodes[0].Parts[0], c.Nodes[0].Parts[1], c.Nodes[1].Parts[0] = 9, 9, 9 },
		func(c api.Cluster) { c.Nodes[0].Parts[0], c.Nodes[1].Parts[0] = 1, 0 },
		func(c api.Cluster) { c.Nodes[0].Zone, c.Nodes[1].Zone, c.Nodes[2].Zone = 1, 1, 0 },
		func(c api.Cluster) { c.Nodes[1], c.Nodes[2] = c.Nodes[2], c.Nodes[1] },
		func(c api.Cluster) { clear(c.Nodes) },
		func(c api.Cluster) { scribble(c.Nodes[0].Parts, -5); scribble(c.Nodes, api.NodeDef{Zone: 77}) },
	} {
		c, _ := roomy()
		r := made(t, c)
		stays(t, r, func() { spoil(c) })
		if got := life(t, r, func([]api.Msg, []api.Outcome) {}); got != want {
			t.Errorf("behind another's writing, %d: %s", i, got)
		}
	}
}

// R4: it is not changed either, nor what lies behind it.
func TestClusterIsNotChanged(t *testing.T) {
	c, tell := roomy()
	before := tell()
	r := made(t, c)
	is(t, "the cluster", tell(), before)
	life(t, r, func(list []api.Msg, over []api.Outcome) { scribble(list, junk); scribble(over, junkEnd) })
	is(t, "the cluster behind a life", tell(), before)
	for _, c := range wrongClusters() {
		text := fmt.Sprint(c)
		New(c)
		is(t, "a wrong one", fmt.Sprint(c), text)
	}
}

// Two routers in turns, of one cluster's lists and of two: each as if it were alone.
func TestTwoRouters(t *testing.T) {
	c := east()
	for _, d := range []api.Cluster{c, east()} {
		one, other := made(t, c), made(t, d)
		stays(t, other, func() {
			getIs(t, one, "abc", 1, 0)
			wait(t, one, 1)
			tickIs(t, one, out(ask(1, 1, "abc")), nil)
			fills(t, one, "abc", 0, 2, 63)
			getFails(t, one, "abc", api.ErrOpen)
		})
		openIs(t, other, 0)
		getIs(t, other, "abc", 1, 0)
		stays(t, one, func() {
			takeIs(t, other, got(1, 1, "abc", api.OK, 7, "v"), nil, nil) // the one has asked node 1, the other has not
			wait(t, other, 1)
			tickIs(t, other, out(ask(1, 1, "abc")), nil)
			takeIs(t, other, got(1, 1, "abc", api.OK, 7, "v"), nil, ends(found(1, "abc", 1, 7, "v")))
		})
		openIs(t, one, 64)
		openIs(t, other, 0)
		takeIs(t, one, got(1, 1, "abc", api.OK, 8, "w"), nil, ends(found(1, "abc", 1, 8, "w")))
		getIs(t, one, "abc", 65, 0)
		getIs(t, other, "abc", 2, 0)
		wait(t, one, 1)
		stays(t, other, func() { one.Tick() }) // 62 gets and one more: node 0 is silent there
		silentAre(t, one, 0)
		silentAre(t, other)
		getIs(t, other, "abc", 3, 0)
	}
}
