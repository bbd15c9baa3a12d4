package audit

import (
	"fmt"
	"strings"
	"testing"

	"granary/api"
)

// P19.3

// third is an auditor of E in whose audit every kind of node is: node 0 is asked for its partition 2, node 1 is through, node 2 is missing, node 3 holds nothing.
func third(t *testing.T) *Audit {
	t.Helper()
	c := east()
	c.Nodes = append(c.Nodes, api.NodeDef{})
	a := made(t, c)
	beginIs(t, a, 7, first(1, 7))
	tells(t, a, 1, 7, 1, []int{0, 1}, alike)
	takeIs(t, a, answer(1, 7, 0, 0, 4, sumS), question(1, 7, 0, 1))
	takeIs(t, a, answer(1, 7, 0, 1, 4, sumS), question(1, 7, 0, 2))
	takeIs(t, a, refusal(1, 7, 2, 2, api.ErrDown))
	return a
}

// What differs from the answer in one of the fields that count is none, and does nothing.
func TestNoAnswer(t *testing.T) {
	right := answer(1, 7, 0, 2, 4, sumS)
	var wrong []api.Msg
	turn := func(change func(m *api.Msg)) {
		m := right
		change(&m)
		wrong = append(wrong, m)
	}
	for _, n := range []int{leastInt, -2, -1, 0, 1, 2, 3, 4, 5, 6, 7, 8, 9, 10, 11, 12, 13, 14, 15, 16, 17, 64, 65, 66, 67, 1 << 32, 1<<32 + 1, 1<<32 + 2, 1<<32 + 7, 1<<32 + 14, mostInt} {
		if n != right.Kind {
			turn(func(m *api.Msg) { m.Kind = n })
		}
		if n != right.Id {
			turn(func(m *api.Msg) { m.Id = n })
		}
		if n != right.From { // -1, nodes that are through, missing and not asked, the number of nodes, addresses
			turn(func(m *api.Msg) { m.From = n })
		}
		if n != right.Seq { // partitions ahead of it and behind it, of the node's list and of none
			turn(func(m *api.Msg) { m.Seq = n })
		}
		if n != right.Version {
			turn(func(m *api.Msg) { m.Version = n })
		}
	}
	a := third(t)
	for _, m := range wrong {
		stays(t, a, func() { takeIs(t, a, m) })
		m.Code = api.ErrAbsent
		stays(t, a, func() { takeIs(t, a, m) })
		m.Code, m.Value = api.OK, "short"
		stays(t, a, func() { takeIs(t, a, m) })
	}
	takeIs(t, a, right, question(1, 7, 0, 3))
}

// Nodes that are not asked any more are not heard with any partition.
func TestNodesThatAreNotAsked(t *testing.T) {
	a := third(t)
	for _, node := range []int{1, 2, 3} {
		for part := -1; part <= 4; part++ {
			stays(t, a, func() {
				takeIs(t, a, answer(1, 7, node, part, 5, sumT))
				takeIs(t, a, refusal(1, 7, node, part, api.ErrAbsent))
			})
		}
	}
	tells(t, a, 1, 7, 0, []int{2, 3}, alike)
	reportIs(t, a, 1, 7, api.AuditOpen, nil, []int{2})
}

// To, Epoch and Key make no difference.
func TestFieldsThatDoNotCount(t *testing.T) {
	for _, n := range []int{leastInt, -1, 0, 1, 2, 64, 65, 66, 67, 1 << 32, mostInt} {
		for _, key := range []string{"", "k", strings.Repeat("\xff", 300)} {
			turned := func(m api.Msg) api.Msg {
				m.To, m.Epoch, m.Key = n, n, key
				return m
			}
			a, plain := third(t), third(t)
			takeIs(t, plain, answer(1, 7, 0, 2, 4, sumS), question(1, 7, 0, 3))
			takeIs(t, a, turned(answer(1, 7, 0, 2, 4, sumS)), question(1, 7, 0, 3))
			is(t, "what it knows", kept(a), kept(plain))
			takeIs(t, plain, refusal(1, 7, 0, 3, api.ErrContent))
			takeIs(t, a, turned(refusal(1, 7, 0, 3, api.ErrContent)))
			is(t, "what it knows", kept(a), kept(plain))
			reportIs(t, a, 1, 7, api.AuditOpen, nil, []int{0, 2})
		}
	}
}

// The same answer twice counts once: behind it another partition is asked for, or none.
func TestTwice(t *testing.T) {
	a := begun(t)
	for node, list := range eastLists() {
		for i, part := range list {
			m := answer(1, 7, node, part, 4, sumS)
			var want []api.Msg
			if i+1 < len(list) {
				want = out(question(1, 7, node, list[i+1]))
			}
			takeIs(t, a, m, want...)
			stays(t, a, func() {
				takeIs(t, a, m)
				m.Prev, m.Value = 5, sumT // what it says now comes too late
				takeIs(t, a, m)
				m.Code = api.ErrAbsent
				takeIs(t, a, m)
			})
		}
	}
	reportIs(t, a, 1, 7, api.AuditAlike, nil, nil)
}

// With any error a node is missing, whatever stands beside it.
func TestErrors(t *testing.T) {
	for _, code := range codes {
		for _, value := range []string{"", sumS, sumS[:15], sumS + "x"} {
			a := begun(t)
			m := refusal(1, 7, 2, 2, code)
			m.Prev, m.Value = 4, value
			takeIs(t, a, m)
			tells(t, a, 1, 7, 0, upto(4), but(9, sumT, 2)) // what stood beside the error was not told
			tells(t, a, 1, 7, 1, []int{0, 1}, alike)
			reportIs(t, a, 1, 7, api.AuditOpen, nil, []int{2})
		}
	}
}

// A sum has 16 bytes, of any value.
func TestValues(t *testing.T) {
	for _, value := range []string{sumS, sumU, strings.Repeat("\x00", 16), strings.Repeat("\xff", 16), strings.Repeat("\u00e4", 8)} {
		is(t, "the value's bytes", len(value), 16)
		a := begun(t)
		for node, list := range eastLists() {
			tells(t, a, 1, 7, node, list, func(int) (int, string) { return 4, value })
		}
		reportIs(t, a, 1, 7, api.AuditAlike, nil, nil)
	}
	for _, n := range []int{0, 1, 8, 15, 17, 32, 4096, 1 << 20} {
		for place := range 2 {
			a := begun(t)
			list := eastLists()[1]
			if place == 1 {
				takeIs(t, a, answer(1, 7, 1, list[0], 4, sumS), question(1, 7, 1, list[1]))
			}
			takeIs(t, a, answer(1, 7, 1, list[place], 4, strings.Repeat("s", n)))
			tells(t, a, 1, 7, 0, upto(4), alike)
			tells(t, a, 1, 7, 2, []int{2, 3}, alike)
			reportIs(t, a, 1, 7, api.AuditOpen, nil, []int{1})
		}
	}
}

// The number of pairs may be any number.
func TestNumbersOfPairs(t *testing.T) {
	numbers := []int{leastInt, -1, 0, 1, 512, 1 << 32, mostInt}
	for _, one := range numbers {
		for _, other := range numbers {
			a := begun(t)
			tells(t, a, 1, 7, 0, upto(4), but(one, sumS, 1))
			tells(t, a, 1, 7, 1, []int{0, 1}, but(other, sumS, 1))
			tells(t, a, 1, 7, 2, []int{2, 3}, alike)
			if one == other {
				reportIs(t, a, 1, 7, api.AuditAlike, nil, nil)
			} else {
				reportIs(t, a, 1, 7, api.AuditUnlike, []int{1}, nil)
			}
		}
	}
}

// A node that is missing behind some partitions has told these.
func TestWhatAMissingNodeToldCounts(t *testing.T) {
	for told := range 4 {
		for _, how := range []string{"an error", "a short sum", "nothing"} {
			for differ := range 4 {
				what := fmt.Sprintf("%d told, then %s, %d differs", told, how, differ)
				a := begun(t)
				for part := range told {
					takeIs(t, a, answer(1, 7, 0, part, 4, sumS), question(1, 7, 0, part+1))
				}
				tells(t, a, 1, 7, 1, []int{0, 1}, but(4, sumT, differ))
				tells(t, a, 1, 7, 2, []int{2, 3}, but(4, sumT, differ))
				switch how {
				case "an error":
					takeIs(t, a, refusal(1, 7, 0, told, api.ErrContent))
				case "a short sum":
					takeIs(t, a, answer(1, 7, 0, told, 4, sumS[:15]))
				default:
					tickIs(t, a)
					tickIs(t, a, question(1, 7, 0, told))
					tickIs(t, a)
					tickIs(t, a, question(1, 7, 0, told))
					wait(t, a, 2)
				}
				if differ < told {
					reportIs(t, a, 1, 7, api.AuditUnlike, []int{differ}, []int{0})
				} else {
					reportIs(t, a, 1, 7, api.AuditOpen, nil, []int{0})
				}
				if t.Failed() {
					t.Fatal(what)
				}
			}
		}
	}
}

// The answers of the nodes may come in every order among them: the report is the same.
func TestEveryOrder(t *testing.T) {
	turns := map[string][]int{}
	for _, order := range orders(upto(8)) { // of the eight answers: four of node 0, two of node 1, two of node 2
		var nodes []int
		for _, i := range order {
			nodes = append(nodes, []int{0, 0, 0, 0, 1, 1, 2, 2}[i])
		}
		turns[fmt.Sprint(nodes)] = nodes
	}
	is(t, "orders", len(turns), 420)
	for _, nodes := range turns {
		a, lists := begun(t), eastLists()
		for i, node := range nodes {
			is(t, "Busy", a.Busy(), true)
			part := lists[node][0]
			lists[node] = lists[node][1:]
			sum := sumS
			if node == 0 && (part == 3 || part == 1) {
				sum = sumT
			}
			var want []api.Msg
			if len(lists[node]) > 0 {
				want = out(question(1, 7, node, lists[node][0]))
			}
			takeIs(t, a, answer(1, 7, node, part, 4, sum), want...)
			is(t, "Busy", a.Busy(), i < 7)
		}
		reportIs(t, a, 1, 7, api.AuditUnlike, []int{1, 3}, nil)
	}
}

// Late answers of the audit before do nothing in the next one, though version, node and partition are right.
func TestLateAnswers(t *testing.T) {
	a := begun(t)
	wait(t, a, 1)
	for a.Busy() {
		a.Tick()
	}
	late := []api.Msg{answer(1, 7, 0, 0, 4, sumS), answer(1, 7, 1, 0, 4, sumS), answer(1, 7, 2, 2, 4, sumS), refusal(1, 7, 0, 0, api.ErrAbsent)}
	none := func() {
		t.Helper()
		for _, m := range late {
			stays(t, a, func() { takeIs(t, a, m) })
		}
	}
	none()
	reportIs(t, a, 1, 7, api.AuditOpen, nil, upto(3))
	beginIs(t, a, 7, first(2, 7))
	none()
	for node, list := range eastLists() {
		tells(t, a, 2, 7, node, list, alike)
		none()
	}
	reportIs(t, a, 2, 7, api.AuditAlike, nil, nil)
	stays(t, a, func() { takeIs(t, a, answer(2, 7, 0, 3, 4, sumT)) })
	stays(t, a, func() { takeIs(t, a, answer(3, 7, 0, 0, 4, sumT)) }) // and one to an audit that has not begun yet
	beginIs(t, a, 8, first(3, 8))
	stays(t, a, func() { takeIs(t, a, answer(3, 7, 0, 0, 4, sumT)) })
	takeIs(t, a, answer(3, 8, 0, 0, 4, sumT), question(3, 8, 0, 1))
}
