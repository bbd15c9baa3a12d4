package audit

import (
	"fmt"
	"testing"

	"granary/api"
)

// P19.5, and when replicas differ.

// audited is an auditor of a cluster of n nodes, each with the partition of its number, whose nodes told what say gives; a sum "" is an error.
func audited(t *testing.T, n, replicas int, say func(node, part int) (int, string)) *Audit {
	t.Helper()
	a := made(t, round(n, replicas, 2, 3))
	r := readNew(round(n, replicas, 2, 3))
	a.Begin(7)
	for node, list := range r.lists {
		is(t, "what a node holds", len(list), replicas)
		for _, part := range list {
			pairs, sum := say(node, part)
			if sum == "" {
				takeIs(t, a, refusal(1, 7, node, part, api.ErrContent))
				break
			}
			a.Take(answer(1, 7, node, part, pairs, sum))
		}
	}
	return a
}

func TestAlike(t *testing.T) {
	for n := 1; n <= 16; n++ {
		for _, replicas := range []int{1, (n + 1) / 2, n} {
			a := audited(t, n, replicas, func(_, part int) (int, string) { return part, fmt.Sprintf("the sum of %5d", part) })
			reportIs(t, a, 1, 7, api.AuditAlike, nil, nil)
		}
	}
}

// Each set of partitions of which a replica has another sum, another number of pairs, or both; the last partition too.
func TestUnlike(t *testing.T) {
	for _, other := range []struct {
		pairs int
		sum   string
	}{{4, sumT}, {5, sumS}, {5, sumT}, {4, sumS[:15] + "z"}, {4, "T" + sumS[1:]}, {-4, sumS}, {4 + 1<<32, sumS}} {
		for mask := range 16 {
			for replica := range 2 {
				var want []int
				for part := range 4 {
					if mask>>part&1 == 1 {
						want = append(want, part)
					}
				}
				a := audited(t, 4, 2, func(node, part int) (int, string) {
					if node == (part+replica)%4 && mask>>part&1 == 1 {
						return other.pairs, other.sum
					}
					return 4, sumS
				})
				outcome := api.AuditUnlike
				if mask == 0 {
					outcome = api.AuditAlike
				}
				reportIs(t, a, 1, 7, outcome, want, nil)
			}
		}
	}
}

// Many replicas: one that differs is enough, whichever it is; and each partition is told once, though all differ.
func TestManyReplicas(t *testing.T) {
	for _, replicas := range []int{2, 3, 5} {
		for odd := range replicas {
			a := audited(t, 5, replicas, func(node, part int) (int, string) {
				if part == 3 && node == (part+odd)%5 {
					return 4, sumT
				}
				return 4, sumS
			})
			reportIs(t, a, 1, 7, api.AuditUnlike, []int{3}, nil)
		}
	}
	a := audited(t, 16, 16, func(node, part int) (int, string) { return node, sumS })
	reportIs(t, a, 1, 7, api.AuditUnlike, upto(16), nil)
	a = audited(t, 16, 16, func(node, part int) (int, string) {
		if part%3 == 1 {
			return node / 15, sumS
		}
		return 4, fmt.Sprintf("the sum of %5d", part)
	})
	reportIs(t, a, 1, 7, api.AuditUnlike, []int{1, 4, 7, 10, 13}, nil)
}

// The greatest cluster: sixteen nodes with four partitions each, and eight replicas.
func TestTheMostPartitions(t *testing.T) {
	var parts [][]int
	for i := range 16 {
		parts = append(parts, []int{i, 16 + i, 32 + i, 48 + i})
	}
	c := cluster(8, 1, 1, parts...)
	c.Chunks = 1
	a, r := made(t, c), readNew(c)
	a.Begin(7)
	for node, list := range r.lists {
		is(t, "what a node holds", len(list), 32)
		tells(t, a, 1, 7, node, list, func(part int) (int, string) {
			if node == part%16 && part%7 == 0 {
				return part, sumT
			}
			return part, sumS
		})
	}
	reportIs(t, a, 1, 7, api.AuditUnlike, []int{0, 7, 14, 21, 28, 35, 42, 49, 56, 63}, nil)
}

// A partition of which one node alone told does not differ, nor one of which nobody told.
func TestToldByOneAlone(t *testing.T) {
	for mask := range 8 {
		a := begun(t)
		var gone []int
		for node, list := range eastLists() {
			if mask>>node&1 == 0 {
				takeIs(t, a, refusal(1, 7, node, list[0], api.ErrAbsent))
				gone = append(gone, node)
				continue
			}
			tells(t, a, 1, 7, node, list, func(part int) (int, string) { return node, sumS })
		}
		var differ []int
		if mask&1 == 1 && mask&2 == 2 {
			differ = append(differ, 0, 1)
		}
		if mask&1 == 1 && mask&4 == 4 {
			differ = append(differ, 2, 3)
		}
		outcome := api.AuditOpen // node 0 shares all that the others have
		if len(differ) > 0 {
			outcome = api.AuditUnlike
		}
		reportIs(t, a, 1, 7, outcome, differ, gone)
	}
}

// Sums of different partitions are not held against one another, nor are the numbers of pairs.
func TestPartitionsAreNotComparedWithOneAnother(t *testing.T) {
	a := audited(t, 3, 2, func(_, part int) (int, string) { return part, []string{sumS, sumT, sumU}[part] })
	reportIs(t, a, 1, 7, api.AuditAlike, nil, nil)
}

// That replicas differ goes ahead of that nodes are missing.
func TestUnlikeAheadOfOpen(t *testing.T) {
	say := func(node, part int) (int, string) {
		if node == 2 {
			return 0, ""
		}
		return 4, sumS
	}
	a := audited(t, 4, 2, say)
	reportIs(t, a, 1, 7, api.AuditOpen, nil, []int{2})
	a = audited(t, 4, 2, func(node, part int) (int, string) {
		if node == 0 && part == 3 {
			return 4, sumT
		}
		return say(node, part)
	})
	reportIs(t, a, 1, 7, api.AuditUnlike, []int{3}, []int{2})
}

// The report is of the audit that ended last: none ahead of the first end, the first one's during the second.
func TestReports(t *testing.T) {
	a := made(t, east())
	noReport(t, a, api.ErrIdle)
	beginIs(t, a, 7, first(1, 7))
	noReport(t, a, api.ErrIdle)
	beginFails(t, a, 8, api.ErrBusy)
	tickIs(t, a)
	noReport(t, a, api.ErrIdle)
	tells(t, a, 1, 7, 1, []int{0, 1}, but(5, sumS, 1))
	takeIs(t, a, refusal(1, 7, 2, 2, api.ErrAbsent))
	noReport(t, a, api.ErrIdle)
	tells(t, a, 1, 7, 0, upto(4), alike)
	for range 3 {
		reportIs(t, a, 1, 7, api.AuditUnlike, []int{1}, []int{2})
		beginFails(t, a, 0, api.ErrVersion)
		tickIs(t, a)
	}
	one := func() {
		t.Helper()
		toldIs(t, a, 1, 7, api.AuditUnlike, []int{1}, []int{2})
		is(t, "Busy", a.Busy(), true)
	}
	beginIs(t, a, 8, first(2, 8))
	one()
	tickIs(t, a)
	one()
	takeIs(t, a, refusal(2, 8, 0, 0, api.ErrAbsent))
	one()
	tells(t, a, 2, 8, 2, []int{2, 3}, alike)
	one()
	tells(t, a, 2, 8, 1, []int{0, 1}, alike)
	reportIs(t, a, 2, 8, api.AuditOpen, nil, []int{0})
	beginIs(t, a, 9, first(3, 9))
	toldIs(t, a, 2, 8, api.AuditOpen, nil, []int{0})
	for node, list := range eastLists() {
		tells(t, a, 3, 9, node, list, alike)
	}
	reportIs(t, a, 3, 9, api.AuditAlike, nil, nil)
}

// Busy and Report change nothing.
func TestAskingChangesNothing(t *testing.T) {
	for _, a := range []*Audit{made(t, east()), begun(t), third(t), fourth(t)} {
		stays(t, a, func() {
			a.Busy()
			a.Report()
		})
	}
}

// What an ended audit was told is not kept.
func TestToldIsForgotten(t *testing.T) {
	a := begun(t)
	tells(t, a, 1, 7, 1, []int{0, 1}, alike)
	tells(t, a, 1, 7, 0, upto(4), alike)
	is(t, "told", len(a.told), 6)
	takeIs(t, a, refusal(1, 7, 2, 2, api.ErrAbsent))
	is(t, "told", len(a.told), 0)
}
