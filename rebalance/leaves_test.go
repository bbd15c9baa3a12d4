package rebalance

import (
	"fmt"
	"slices"
	"testing"

	"granary/api"
)

// P23.3

// leavesAre holds what a node leaves, each slot as Part, Replica.
func leavesAre(t *testing.T, what string, was, next api.Cluster, node int, want ...[2]int) {
	t.Helper()
	var slots []api.Slot
	for _, x := range want {
		slots = append(slots, api.Slot{Part: x[0], Replica: x[1]})
	}
	if got, e := leaves(t, was, next, node); e != api.OK || !slices.Equal(got, slots) {
		t.Errorf("%s, node %d: %v, %d, want %v", what, node, got, e, slots)
	}
}

func TestLeavesOfUnlikeAndWrong(t *testing.T) {
	numbers := []int{leastInt, -1, 0, 2, 3, 16, mostInt}
	for what, c := range unfits() {
		for _, node := range numbers {
			for _, both := range [][2]api.Cluster{{east(), c}, {c, east()}} {
				_, e := leaves(t, both[0], both[1], node)
				is(t, what, e, api.ErrOther)
			}
		}
	}
	for wrong, c := range wrongs() {
		for _, node := range numbers {
			for _, other := range append([]api.Cluster{east(), west()}, unfits()["the store"]) {
				for _, both := range [][2]api.Cluster{{c, other}, {other, c}} {
					_, e := leaves(t, both[0], both[1], node)
					is(t, "one that is not valid", e, wrong)
				}
			}
			for _, other := range wrongs() {
				_, e := leaves(t, c, other, node)
				is(t, "both of them", e, wrong)
			}
		}
	}
}

func TestLeavesNode(t *testing.T) {
	one := settings(1, 1, 2, many(4))
	for _, x := range []struct {
		was, next api.Cluster
		nodes     int // of the one that has more
	}{{east(), east(), 3}, {east(), west(), 4}, {west(), east(), 4}, {one, west(), 4}, {west(), one, 4}, {one, one, 1}, {one, fits()["sixteen nodes"], 16}} {
		for node := range x.nodes {
			_, e := leaves(t, x.was, x.next, node)
			is(t, "a node of one of them", e, api.OK)
		}
		for _, node := range []int{leastInt, -1, x.nodes, x.nodes + 1, 16, 17, mostInt} {
			_, e := leaves(t, x.was, x.next, node)
			is(t, "a node of neither", e, api.ErrNode)
		}
	}
}

func TestLeavesByHand(t *testing.T) {
	for node := range 3 {
		leavesAre(t, "alike", east(), east(), node)
	}
	leavesAre(t, "a node that is new", east(), west(), 3)
	leavesAre(t, "a node that keeps all", east(), west(), 2)
	leavesAre(t, "a node that goes", east(), fits()["a node less"], 2, [2]int{2, 1}, [2]int{3, 0})
	leavesAre(t, "all of them go", east(), fits()["new nodes alone"], 0, [2]int{0, 0}, [2]int{1, 1}, [2]int{2, 0}, [2]int{3, 1})
	leavesAre(t, "all of them go", east(), fits()["new nodes alone"], 1, [2]int{0, 1}, [2]int{1, 0})
	leavesAre(t, "all of them go", east(), fits()["new nodes alone"], 2, [2]int{2, 1}, [2]int{3, 0})
	leavesAre(t, "all of them go", east(), fits()["new nodes alone"], 4)
	leavesAre(t, "it stays, with nothing", east(), fits()["node 0 has nothing"], 0, [2]int{0, 0}, [2]int{1, 1}, [2]int{2, 0}, [2]int{3, 1})
	leavesAre(t, "it had nothing", fits()["node 0 has nothing"], east(), 0)
	leavesAre(t, "it has nothing either", fits()["node 0 has nothing"], fits()["new nodes alone"], 0)
	leavesAre(t, "one replica", east(), fits()["one replica"], 0, [2]int{1, 1}, [2]int{3, 1})
	leavesAre(t, "more replicas", east(), fits()["three replicas"], 0)
	// The replica has another number by next, but the partition stays.
	leavesAre(t, "other places", east(), fits()["other places"], 0, [2]int{2, 0}, [2]int{3, 1})
	leavesAre(t, "other places", east(), fits()["other places"], 1)
}

func TestLeavesByLot(t *testing.T) {
	lot := dice(2303)
	for i := range 1500 {
		parts, width, chunks := 1+lot.roll(oneOf(&lot, 1, 4, 12, 64)), 1+lot.roll(16), 1+lot.roll(oneOf(&lot, 1, 4, 8))
		was, next := drawn(&lot, parts, width, chunks), drawn(&lot, parts, width, chunks)
		what := fmt.Sprintf("lot %d: %+v, then %+v", i, was, next)
		left := 0
		for node := -1; node < 18; node++ {
			want, wrong := plainLeaves(was, next, node)
			got, e := leaves(t, was, next, node)
			if e != wrong || !slices.Equal(got, want) {
				t.Errorf("%s, node %d: %v, %d, want %v, %d", what, node, got, e, want, wrong)
			}
			left += len(got)
		}
		// What is left and what comes are as many as the replicas are more or fewer.
		moved := 0
		for _, m := range planned(t, what, was, next) {
			if m.From != m.To {
				moved++
			}
		}
		is(t, what+": what comes less what is left", moved-left, parts*(next.Replicas-was.Replicas))
	}
}
