package audit

import (
	"fmt"
	"testing"

	"granary/api"
	"granary/ring"
)

// P19.1

// wrongClusters are some that are not valid, by the error of each.
func wrongClusters() map[api.Errno]api.Cluster {
	list := map[api.Errno]api.Cluster{api.ErrNodes: cluster(1, 2, 3), api.ErrName: {}}
	for e, change := range map[api.Errno]func(c *api.Cluster){
		api.ErrSetting: func(c *api.Cluster) { c.Width = 0 },
		api.ErrParts:   func(c *api.Cluster) { c.Nodes[1].Parts = []int{2} },
		api.ErrCopies:  func(c *api.Cluster) { c.Replicas = 4 },
		api.ErrBig: func(c *api.Cluster) {
			c.Chunks, c.Nodes[0].Parts, c.Nodes[1].Parts, c.Nodes[2].Parts = 16, upto(17), nil, []int{17}
		},
	} {
		c := east()
		change(&c)
		list[e] = c
	}
	return list
}

func TestNewOfWrongClusters(t *testing.T) {
	for want, c := range wrongClusters() {
		is(t, "the cluster", ring.Check(c), want)
		a, e := New(c)
		is(t, "New", e, want)
		is(t, "New: an auditor", a != nil, false)
	}
	three := east()
	three.Store, three.Resend, three.Replicas = "East", 0, 9
	a, e := New(three)
	is(t, "three faults", e, api.ErrName)
	is(t, "three faults: an auditor", a != nil, false)
}

// The settings that the auditor goes by, at their ends and past them.
func TestNewAtTheSettingsEnds(t *testing.T) {
	for _, x := range []struct {
		resend, limit int
		want          api.Errno
	}{
		{1, 1, api.OK}, {1024, 64, api.OK}, {1, 64, api.OK}, {1024, 1, api.OK},
		{0, 1, api.ErrSetting}, {1, 0, api.ErrSetting}, {-1, 1, api.ErrSetting}, {1, -1, api.ErrSetting},
		{1025, 64, api.ErrSetting}, {1024, 65, api.ErrSetting}, {mostInt, 1, api.ErrSetting}, {1, leastInt, api.ErrSetting},
	} {
		a, e := New(pace(x.resend, x.limit))
		is(t, "New", e, x.want)
		is(t, "New: an auditor", a != nil, x.want == api.OK)
	}
}

func TestNewHasNoAudit(t *testing.T) {
	for _, c := range []api.Cluster{east(), round(1, 1, 1, 1), round(16, 16, 2, 3), cluster(1, 1, 1, nil, upto(64))} {
		a := made(t, c)
		is(t, "Busy", a.Busy(), false)
		noReport(t, a, api.ErrIdle)
		for _, job := range []int{0, 1} {
			for _, version := range []int{0, 1, 7} {
				for node := range c.Nodes {
					stays(t, a, func() {
						takeIs(t, a, answer(job, version, node, 0, 4, sumS))
						takeIs(t, a, refusal(job, version, node, 0, api.ErrAbsent))
					})
				}
			}
		}
		wait(t, a, 10)
		is(t, "Busy", a.Busy(), false)
		noReport(t, a, api.ErrIdle)
	}
}

// An auditor that New did not make is answered as one that is not there.
func TestNoAuditor(t *testing.T) {
	for what, a := range map[string]*Audit{"nil": nil, "not made": new(Audit)} {
		for range 2 {
			is(t, what+": Busy", a.Busy(), false)
			noReport(t, a, api.ErrNil)
			for _, version := range []int{leastInt, -1, 0, 1, 7, 999999, 1000000, mostInt} {
				beginFails(t, a, version, api.ErrNil)
			}
			for _, m := range []api.Msg{{}, answer(1, 7, 0, 0, 4, sumS), answer(0, 0, 0, 0, 0, sumS), refusal(1, 7, 0, 0, api.ErrAbsent), {Kind: api.MsgPong}} {
				list, e := a.Take(m)
				notSent(t, what+": Take", list, e, api.ErrNil)
			}
			list, e := a.Tick()
			notSent(t, what+": Tick", list, e, api.ErrNil)
		}
	}
}

// Two auditors in turns: what one does moves the other in nothing.
func TestTwoAuditors(t *testing.T) {
	one, other := begun(t), made(t, east())
	stays(t, one, func() {
		beginIs(t, other, 9, first(1, 9))
		takeIs(t, other, answer(1, 9, 1, 0, 4, sumT), question(1, 9, 1, 1))
		tickIs(t, other)
		tickIs(t, other, question(1, 9, 0, 0), question(1, 9, 1, 1), question(1, 9, 2, 2))
	})
	takeIs(t, one, answer(1, 7, 1, 0, 4, sumS), question(1, 7, 1, 1))
	stays(t, other, func() {
		tells(t, one, 1, 7, 0, upto(4), alike)
		tells(t, one, 1, 7, 1, []int{1}, alike)
		tells(t, one, 1, 7, 2, []int{2, 3}, alike)
	})
	reportIs(t, one, 1, 7, api.AuditAlike, nil, nil)
	is(t, "the other's Busy", other.Busy(), true)
	noReport(t, other, api.ErrIdle)
	takeIs(t, other, refusal(1, 9, 0, 0, api.ErrDown))
	takeIs(t, other, refusal(1, 9, 1, 1, api.ErrDown))
	beginIs(t, one, 3, first(2, 3))
	takeIs(t, other, refusal(1, 9, 2, 2, api.ErrDown))
	reportIs(t, other, 1, 9, api.AuditOpen, nil, []int{0, 1, 2})
	toldIs(t, one, 1, 7, api.AuditAlike, nil, nil)
	is(t, "Busy", one.Busy(), true)
	beginIs(t, other, 5, first(2, 5))
}

// One that is told all behind the other's end hears nothing of what the other was told.
func TestTwoAuditorsTellingOtherThings(t *testing.T) {
	for i, sum := range []string{sumS, sumT} {
		a, b := begun(t), begun(t)
		for node, list := range eastLists() {
			tells(t, a, 1, 7, node, list, alike)
			tells(t, b, 1, 7, node, list, func(part int) (int, string) { return i, sum })
		}
		reportIs(t, a, 1, 7, api.AuditAlike, nil, nil)
		reportIs(t, b, 1, 7, api.AuditAlike, nil, nil)
		is(t, "both", fmt.Sprint(a.Report()), fmt.Sprint(b.Report()))
	}
}
