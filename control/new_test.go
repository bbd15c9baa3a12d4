package control

import (
	"testing"

	"granary/api"
	"granary/ring"
)

// P15.1

// wrongClusters are some that are not valid, by the error of each.
func wrongClusters() map[api.Errno]api.Cluster {
	list := map[api.Errno]api.Cluster{api.ErrNodes: settings(2, 3, 50), api.ErrName: {}}
	for e, change := range map[api.Errno]func(c *api.Cluster){
		api.ErrSetting: func(c *api.Cluster) { c.Resend = 0 },
		api.ErrParts:   func(c *api.Cluster) { c.Nodes[1].Parts = []int{2} },
		api.ErrCopies:  func(c *api.Cluster) { c.Replicas = 4 },
		api.ErrBig: func(c *api.Cluster) {
			c.Chunks, c.Nodes[0].Parts, c.Nodes[1].Parts, c.Nodes[2].Parts = 16, upto(17), nil, []int{17}
		},
	} {
		c := east()
		change(&c)
		list[e] = c
	}
	return list
}

func TestNewOfWrongClusters(t *testing.T) {
	for want, c := range wrongClusters() {
		is(t, "the cluster", ring.Check(c), want)
		k, e := New(c)
		is(t, "New", e, want)
		is(t, "New: a controller", k != nil, false)
	}
	two := east()
	two.Store, two.Resend, two.Replicas = "East", 0, 9
	k, e := New(two)
	is(t, "three faults", e, api.ErrName)
	is(t, "three faults: a controller", k != nil, false)
}

// The settings that the controller goes by, at their ends and past them.
func TestNewAtTheSettingsEnds(t *testing.T) {
	for _, x := range []struct {
		resend, limit, patience int
		want                    api.Errno
	}{
		{1, 1, 1, api.OK}, {1024, 64, 65536, api.OK},
		{0, 1, 1, api.ErrSetting}, {1, 0, 1, api.ErrSetting}, {1, 1, 0, api.ErrSetting},
		{1025, 64, 65536, api.ErrSetting}, {1024, 65, 65536, api.ErrSetting}, {1024, 64, 65537, api.ErrSetting},
		{mostInt, 1, 1, api.ErrSetting}, {1, leastInt, 1, api.ErrSetting}, {1, 1, mostInt, api.ErrSetting},
	} {
		k, e := New(many(2, x.resend, x.limit, x.patience))
		is(t, "New", e, x.want)
		is(t, "New: a controller", k != nil, x.want == api.OK)
	}
}

func TestNewHasNoJob(t *testing.T) {
	for _, c := range []api.Cluster{east(), many(1, 1, 1, 1), many(16, 2, 3, 50)} {
		k, n := made(t, c), len(c.Nodes)
		is(t, "Busy", k.Busy(), false)
		noReport(t, k, api.ErrIdle)
		list, e := k.Stop()
		notSent(t, "Stop", list, e, api.ErrIdle)
		list, e = k.Revive()
		notSent(t, "Revive", list, e, api.ErrIdle)
		for range 60 {
			tickIs(t, k, nil)
		}
		for _, phase := range []string{fetch, swap, back, look} {
			for _, job := range []int{0, 1} {
				takeIs(t, k, reply(phase, 0, job, 7, api.OK), nil)
				takeIs(t, k, reply(phase, 0, job, 7, api.ErrFull), nil)
			}
		}
		noReport(t, k, api.ErrIdle)
		beginIs(t, k, 1, 7, messages(fetch, 1, 7, upto(n)...))
	}
}

// A controller that New did not make is answered as one that is not there.
func TestNoController(t *testing.T) {
	for what, k := range map[string]*Control{"nil": nil, "not made": new(Control)} {
		for range 2 {
			is(t, what+": Busy", k.Busy(), false)
			noReport(t, k, api.ErrNil)
			for _, kind := range []int{leastInt, 0, 1, 2, 3, 4, mostInt} {
				beginFails(t, k, kind, 0, api.ErrNil)
				beginFails(t, k, kind, 7, api.ErrNil)
			}
			for _, phase := range []string{fetch, swap, back, look} {
				for _, job := range []int{0, 1} {
					list, e := k.Take(reply(phase, 0, job, 0, api.OK))
					notSent(t, what+": Take", list, e, api.ErrNil)
				}
			}
			list, e := k.Take(api.Msg{})
			notSent(t, what+": Take", list, e, api.ErrNil)
			list, e = k.Tick()
			notSent(t, what+": Tick", list, e, api.ErrNil)
			list, e = k.Stop()
			notSent(t, what+": Stop", list, e, api.ErrNil)
			list, e = k.Revive()
			notSent(t, what+": Revive", list, e, api.ErrNil)
		}
	}
}

// Two controllers in turns: what one does moves the other in nothing, at whatever places the two are.
func TestTwoControllers(t *testing.T) {
	for _, one := range stations() {
		for _, other := range stations() {
			for _, c := range []api.Cluster{east(), many(2, 1, 2, 5)} {
				first, second := one.at(t, c), other.at(t, east())
				first.Take(reply(one.phase, 0, one.job, one.version, api.OK))
				first.Take(reply(one.phase, 1, one.job, one.version, api.ErrFull))
				story(t, first)
				other.unmoved(t, "behind another's doings", second, east())
			}
		}
	}
}

// The same calls one behind the other in turns give each the same answers.
func TestTwoControllersStepByStep(t *testing.T) {
	one, other := made(t, east()), made(t, east())
	beginIs(t, one, 1, 7, messages(fetch, 1, 7, 0, 1, 2))
	beginIs(t, other, 2, 4, messages(swap, 1, 4, 0, 1, 2))
	tickIs(t, one, nil)
	takeIs(t, one, reply(fetch, 1, 1, 7, api.OK), nil)
	takeIs(t, other, reply(swap, 0, 1, 4, api.OK), nil)
	tickIs(t, one, messages(fetch, 1, 7, 0, 2))
	tickIs(t, other, nil)
	takeIs(t, one, reply(fetch, 0, 1, 7, api.OK), nil)
	tickIs(t, other, messages(swap, 1, 4, 1, 2))
	stopIs(t, other, messages(back, 1, 0, 0, 1, 2))
	takeIs(t, one, reply(fetch, 2, 1, 7, api.OK), messages(swap, 1, 7, 0, 1, 2))
	takeIs(t, other, reply(back, 2, 1, 3, api.OK), nil)
	takeIs(t, one, reply(back, 0, 1, 3, api.OK), nil)
	sent(t, "the last Swapped", answered(t, one, swap, 3, 1, 7), api.OK, nil)
	reportIs(t, one, 1, 1, 7, api.Succeeded, each(3, 7))
	is(t, "the other's Busy", other.Busy(), true)
	noReport(t, other, api.ErrIdle)
	takeIs(t, other, reply(back, 0, 1, 1, api.OK), nil)
	beginIs(t, one, 3, 0, messages(look, 2, 0, 0, 1, 2))
	takeIs(t, other, reply(back, 1, 1, 2, api.OK), nil)
	reportIs(t, other, 1, 2, 4, api.Restored, []int{1, 2, 3})
	toldIs(t, one, 1, 1, 7, api.Succeeded, each(3, 7))
	beginIs(t, other, 1, 9, messages(fetch, 2, 9, 0, 1, 2))
}
