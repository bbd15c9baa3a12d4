package rebalance

import (
	"fmt"
	"slices"
	"testing"

	"granary/api"
)

// P23.2, P23.10

// planIs holds a Plan, each of its moves as Part, From, FromReplica, To, Replica.
func planIs(t *testing.T, what string, was, next api.Cluster, want ...[5]int) {
	t.Helper()
	var moves []api.Move
	for _, x := range want {
		moves = append(moves, api.Move{Part: x[0], From: x[1], FromReplica: x[2], To: x[3], Replica: x[4]})
	}
	if got, e := plans(t, was, next); e != api.OK || !slices.Equal(got, moves) {
		t.Errorf("%s: %v, %d, want %v", what, got, e, moves)
	}
}

// planned is a Plan that is held against the chapter's words.
func planned(t *testing.T, what string, was, next api.Cluster) []api.Move {
	t.Helper()
	want, wrong := plainPlan(was, next)
	got, e := plans(t, was, next)
	if e != wrong || !slices.Equal(got, want) {
		t.Errorf("%s: %v, %d, want %v, %d", what, got, e, want, wrong)
	}
	return got
}

// unfits are definitions that are valid and do not fit E, each in one thing.
func unfits() map[string]api.Cluster {
	return map[string]api.Cluster{
		"the store":             with(east(), func(c *api.Cluster) { c.Store = "west" }),
		"a longer name":         with(east(), func(c *api.Cluster) { c.Store = "east-" }),
		"a partition more":      with(east(), func(c *api.Cluster) { c.Nodes[1].Parts = []int{1, 4} }),
		"a partition less":      with(east(), func(c *api.Cluster) { c.Nodes[2].Parts = nil }),
		"a wider hash":          with(east(), func(c *api.Cluster) { c.Width = 2 }),
		"a chunk more":          with(east(), func(c *api.Cluster) { c.Chunks = 3 }),
		"a chunk less":          with(east(), func(c *api.Cluster) { c.Chunks = 1 }),
		"all of these":          with(west(), func(c *api.Cluster) { c.Store = "x"; c.Width = 16; c.Chunks = 4; c.Nodes[0].Parts = []int{0, 4} }),
		"replicas and a chunk":  with(east(), func(c *api.Cluster) { c.Replicas = 1; c.Chunks = 4 }),
		"replicas and a number": with(east(), func(c *api.Cluster) { c.Replicas = 1; c.Nodes[1].Parts = []int{1, 4, 5, 6, 7} }),
	}
}

// likes are definitions that fit E and place everything as E does.
func likes() []api.Cluster {
	var list []api.Cluster
	for i := range 18 {
		list = append(list, with(east(), func(c *api.Cluster) {
			*[]*int{&c.Retain, &c.Block, &c.Rate, &c.Per, &c.Burst, &c.Tries, &c.Base, &c.Most, &c.Quota, &c.Room, &c.Depot, &c.Resend, &c.Limit, &c.Patience, &c.GetWait, &c.Strikes, &c.Ban, &c.Home}[i] += 1
			c.Burst, c.Most = max(c.Burst, c.Block), max(c.Most, c.Base)
		}))
	}
	for node := range 3 {
		list = append(list, with(east(), func(c *api.Cluster) { c.Nodes[node].Zone = 7 }))
	}
	return append(list, with(east(), func(c *api.Cluster) { c.Nodes = append(c.Nodes, api.NodeDef{Zone: 3}) }))
}

// fits are definitions that fit E and place things otherwise.
func fits() map[string]api.Cluster {
	return map[string]api.Cluster{
		"F":                         west(),
		"one replica":               with(east(), func(c *api.Cluster) { c.Replicas = 1 }),
		"three replicas":            with(east(), func(c *api.Cluster) { c.Replicas = 3 }),
		"one node":                  settings(1, 1, 2, many(4)),
		"one of two nodes":          settings(1, 1, 2, nil, many(4)),
		"two nodes":                 settings(2, 1, 2, []int{0, 1}, []int{2, 3}),
		"a node less":               settings(2, 1, 2, []int{0, 2, 3}, []int{1}),
		"node 0 has nothing":        settings(2, 1, 2, nil, []int{0, 1, 2}, []int{3}),
		"node 2 has nothing":        settings(2, 1, 2, []int{0, 2, 3}, []int{1}, nil),
		"other places":              settings(2, 1, 2, []int{1}, []int{0, 2}, []int{3}),
		"reversed":                  settings(2, 1, 2, []int{3}, []int{0, 2}, []int{1}),
		"a node each":               settings(4, 1, 2, []int{0}, []int{1}, []int{2}, []int{3}),
		"new nodes alone":           settings(2, 1, 2, nil, nil, nil, []int{0, 2}, []int{1, 3}),
		"sixteen nodes":             settings(3, 1, 2, nil, nil, []int{0}, nil, nil, nil, []int{2}, nil, nil, nil, nil, nil, []int{1}, nil, nil, []int{3}),
		"replicas and all settings": with(west(), func(c *api.Cluster) { c.Replicas, c.Retain, c.Block, c.Quota, c.Home = 4, 8, 1, 1, 7 }),
	}
}

func TestPlanOfUnlike(t *testing.T) {
	for what, c := range unfits() {
		for _, e := range []api.Cluster{east(), likes()[0]} {
			for _, both := range [][2]api.Cluster{{e, c}, {c, e}} {
				if l, e := plans(t, both[0], both[1]); e != api.ErrOther {
					t.Errorf("%s: %v, %d", what, l, e)
				}
			}
		}
		planned(t, what+", twice", c, c)
	}
}

func TestPlanOfWrong(t *testing.T) {
	for wrong, c := range wrongs() {
		for _, other := range append([]api.Cluster{east(), west()}, unfits()["the store"], unfits()["a wider hash"]) {
			for _, both := range [][2]api.Cluster{{c, other}, {other, c}} {
				_, e := plans(t, both[0], both[1])
				is(t, "one that is not valid", e, wrong)
			}
		}
		for _, other := range wrongs() {
			_, e := plans(t, c, other)
			is(t, "both of them", e, wrong)
		}
	}
}

func TestPlanOfLike(t *testing.T) {
	stay := [][5]int{{0, 0, 0, 0, 0}, {1, 0, 1, 0, 1}, {2, 0, 0, 0, 0}, {3, 0, 1, 0, 1}, {0, 1, 1, 1, 1}, {1, 1, 0, 1, 0}, {2, 2, 1, 2, 1}, {3, 2, 0, 2, 0}}
	planIs(t, "alike", east(), east(), stay...)
	for i, c := range likes() {
		planIs(t, fmt.Sprint("another setting, ", i), east(), c, stay...)
		planIs(t, fmt.Sprint("another setting, ", i), c, east(), stay...)
	}
}

func TestPlanByHand(t *testing.T) {
	// By E: of 0: 0, 1; of 1: 1, 0; of 2: 0, 2; of 3: 2, 0.
	planIs(t, "one replica", east(), fits()["one replica"], [5]int{0, 0, 0, 0, 0}, [5]int{2, 0, 0, 0, 0}, [5]int{1, 1, 0, 1, 0}, [5]int{3, 2, 0, 2, 0})
	planIs(t, "three replicas", east(), fits()["three replicas"],
		[5]int{0, 0, 0, 0, 0}, [5]int{1, 0, 1, 0, 1}, [5]int{2, 0, 0, 0, 0}, [5]int{3, 0, 1, 0, 1},
		[5]int{0, 1, 1, 1, 1}, [5]int{1, 1, 0, 1, 0}, [5]int{2, 0, 0, 1, 2}, [5]int{3, 2, 0, 1, 2},
		[5]int{0, 0, 0, 2, 2}, [5]int{1, 1, 0, 2, 2}, [5]int{2, 2, 1, 2, 1}, [5]int{3, 2, 0, 2, 0})
	planIs(t, "one of two nodes", east(), fits()["one of two nodes"], [5]int{0, 1, 1, 1, 0}, [5]int{1, 1, 0, 1, 0}, [5]int{2, 0, 0, 1, 0}, [5]int{3, 2, 0, 1, 0})
	// The node itself gives, though it comes behind another, and its replica's number changes.
	planIs(t, "other places", east(), fits()["other places"],
		[5]int{0, 0, 0, 0, 1}, [5]int{1, 0, 1, 0, 0},
		[5]int{0, 1, 1, 1, 0}, [5]int{1, 1, 0, 1, 1}, [5]int{2, 0, 0, 1, 0}, [5]int{3, 2, 0, 1, 1},
		[5]int{2, 2, 1, 2, 1}, [5]int{3, 2, 0, 2, 0})
	planIs(t, "new nodes alone", east(), fits()["new nodes alone"],
		[5]int{0, 0, 0, 3, 0}, [5]int{1, 1, 0, 3, 1}, [5]int{2, 0, 0, 3, 0}, [5]int{3, 2, 0, 3, 1},
		[5]int{0, 0, 0, 4, 1}, [5]int{1, 1, 0, 4, 0}, [5]int{2, 0, 0, 4, 1}, [5]int{3, 2, 0, 4, 0})
	planIs(t, "back from F", west(), east(),
		[5]int{0, 0, 0, 0, 0}, [5]int{1, 1, 0, 0, 1}, [5]int{2, 3, 0, 0, 0}, [5]int{3, 0, 1, 0, 1},
		[5]int{0, 1, 1, 1, 1}, [5]int{1, 1, 0, 1, 0},
		[5]int{2, 2, 1, 2, 1}, [5]int{3, 2, 0, 2, 0})
}

// pairsOf are the pairs of a node and a partition that it holds.
func pairsOf(c api.Cluster) map[[2]int]int {
	pairs := map[[2]int]int{}
	for part := range homesOf(c) {
		for _, node := range plainOwners(c, part) {
			pairs[[2]int{node, part}]++
		}
	}
	return pairs
}

// least holds that a Plan moves nothing that need not move, and that all of what it tells is so.
func least(t *testing.T, what string, was, next api.Cluster) {
	t.Helper()
	moves := planned(t, what, was, next)
	had, has := pairsOf(was), pairsOf(next)
	need, moved := 0, 0
	for pair := range has {
		if had[pair] == 0 {
			need++
		}
	}
	for _, m := range moves {
		if m.From != m.To {
			moved++
		} else if had[[2]int{m.From, m.Part}] == 0 {
			t.Errorf("%s: %v, but that node has it not", what, m)
		}
	}
	is(t, what+": moves between nodes", moved, need)
	is(t, what+": all moves", len(moves), len(homesOf(next))*next.Replicas)
}

func TestPlanMovesTheLeast(t *testing.T) {
	all := fits()
	all["E"] = east()
	for a, was := range all {
		least(t, a+", and no change", was, was)
		for b, next := range all {
			least(t, a+", then "+b, was, next)
		}
	}
	lot := dice(2302)
	for i := range 1500 {
		parts, width, chunks := 1+lot.roll(oneOf(&lot, 1, 4, 12, 64)), 1+lot.roll(16), 1+lot.roll(oneOf(&lot, 1, 4, 8))
		was, next := drawn(&lot, parts, width, chunks), drawn(&lot, parts, width, chunks)
		least(t, fmt.Sprintf("lot %d: %+v, then %+v", i, was, next), was, next)
	}
}
