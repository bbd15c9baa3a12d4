package control

import (
	"fmt"
	"slices"
	"strings"
	"testing"

	"granary/api"
)

// P15.3

// orders are all orders of the numbers 0 to n - 1.
func orders(n int) [][]int {
	if n == 0 {
		return [][]int{nil}
	}
	var all [][]int
	for _, shorter := range orders(n - 1) {
		for at := range n {
			all = append(all, slices.Insert(slices.Clone(shorter), at, n-1))
		}
	}
	return all
}

// What the last answer gives, by the phase: the phase swap's messages, or the job's end.
func (s station) completes(t *testing.T, k *Control, list []api.Msg, holds []int) {
	t.Helper()
	n := len(holds)
	switch s.phase {
	case fetch:
		sent(t, s.name+": the last answer", list, api.OK, messages(swap, s.job, s.version, upto(n)...))
		is(t, s.name+": Busy", k.Busy(), true)
	case swap, look:
		sent(t, s.name+": the last answer", list, api.OK, nil)
		reportIs(t, k, s.job, s.kind, s.version, api.Succeeded, holds)
	case back:
		sent(t, s.name+": the last answer", list, api.OK, nil)
		reportIs(t, k, s.job, s.kind, s.version, api.Restored, holds)
	}
}

// told is the version that a node tells in its answer: that of the job, where the answer must have it.
func (s station) told(node int) int {
	if s.takesBack() {
		return s.version
	}
	return 10 * (node + 1)
}

func TestAnswersInEveryOrder(t *testing.T) {
	for _, s := range going() {
		for n := 1; n <= 4; n++ {
			for _, order := range orders(n) {
				k := s.at(t, many(n, 2, 3, 50))
				var holds []int
				for node := range n {
					holds = append(holds, s.told(node))
				}
				for _, node := range order[:n-1] {
					takeIs(t, k, reply(s.phase, node, s.job, s.told(node), api.OK), nil)
					is(t, "Busy", k.Busy(), true)
				}
				list, e := k.Take(reply(s.phase, order[n-1], s.job, s.told(order[n-1]), api.OK))
				is(t, "Take", e, api.OK)
				s.completes(t, k, list, holds)
			}
		}
	}
}

func TestAnswersOfManyNodes(t *testing.T) {
	for _, s := range going() {
		k := s.at(t, many(16, 2, 3, 50))
		holds := make([]int, 16)
		for i := range 15 {
			node := (5*i + 3) % 16
			holds[node] = s.told(node)
			takeIs(t, k, reply(s.phase, node, s.job, holds[node], api.OK), nil)
		}
		rest := (5*15 + 3) % 16
		holds[rest] = s.told(rest)
		list, _ := k.Take(reply(s.phase, rest, s.job, holds[rest], api.OK))
		s.completes(t, k, list, holds)
	}
}

// A node's second answer in a phase is nothing: the same again, another version, an error.
func TestAnswersTwice(t *testing.T) {
	for _, s := range going() {
		for node := range 3 {
			k := s.at(t, east())
			takeIs(t, k, reply(s.phase, node, s.job, s.told(node), api.OK), nil)
			for _, m := range []api.Msg{
				reply(s.phase, node, s.job, s.told(node), api.OK),
				reply(s.phase, node, s.job, s.told(node)+1, api.OK),
				reply(s.phase, node, s.job, s.told(node), api.ErrFull),
				reply(s.phase, node, s.job, 0, api.ErrAbsent),
			} {
				takeIs(t, k, m, nil)
				takeIs(t, k, m, nil)
			}
			is(t, s.name+": Busy", k.Busy(), true)
			tickIs(t, k, nil)
			tickIs(t, k, s.messages(without(3, node)...))
			others := without(3, node)
			takeIs(t, k, reply(s.phase, others[0], s.job, s.told(others[0]), api.OK), nil)
			list, _ := k.Take(reply(s.phase, others[1], s.job, s.told(others[1]), api.OK))
			s.completes(t, k, list, []int{s.told(0), s.told(1), s.told(2)})
		}
	}
}

// wrongs are answers that are wrong in one field alone, by that field.
func (s station) wrongs(n, node int) map[string]api.Msg {
	list := map[string]api.Msg{}
	wrong := func(field string, value int, change func(m *api.Msg, value int)) {
		for _, code := range []api.Errno{api.OK, api.ErrFull} {
			m := s.answer(node, code)
			before := m
			change(&m, value)
			if m != before {
				list[fmt.Sprintf("%s %d, code %d", field, value, code)] = m
			}
		}
	}
	for _, from := range []int{leastInt, -3, -2, -1, n, n + 1, 16, 63, api.AddrControl, api.AddrClient, api.AddrAudit, api.AddrExport, 68, 1 << 32, mostInt} {
		wrong("From", from, func(m *api.Msg, from int) { m.From = from })
	}
	for kind := -1; kind <= 18; kind++ {
		wrong("Kind", kind, func(m *api.Msg, kind int) { m.Kind = kind })
	}
	for _, id := range []int{leastInt, -1, 0, s.job - 1, s.job + 1, s.job + 1<<32, mostInt} {
		wrong("Id", id, func(m *api.Msg, id int) { m.Id = id })
		if s.phase != look {
			wrong("Epoch", id, func(m *api.Msg, epoch int) { m.Epoch = epoch })
		}
	}
	for _, seq := range []int{leastInt, -1, 0, 1, 2, 3, mostInt} {
		if s.phase == swap || s.phase == back {
			wrong("Seq", seq, func(m *api.Msg, seq int) { m.Seq = seq })
		}
	}
	for _, version := range []int{leastInt, -1, 0, s.version - 1, s.version + 1, last, mostInt} {
		if s.phase == fetch {
			wrong("Version", version, func(m *api.Msg, version int) { m.Version = version })
		}
	}
	return list
}

// An answer that is wrong in one field is nothing, with OK and with an error, at a controller where nobody has answered and where one node is left.
func TestAnswersWrongInOneField(t *testing.T) {
	c := many(3, 2, 3, 9)
	for _, s := range going() {
		for node := range 3 {
			for what, m := range s.wrongs(3, node) {
				k := s.at(t, c)
				takeIs(t, k, m, nil)
				s.unmoved(t, what, k, c)
				k = s.at(t, c)
				for _, other := range without(3, node) {
					takeIs(t, k, s.answer(other, api.OK), nil)
				}
				takeIs(t, k, m, nil)
				list, _ := k.Take(s.answer(node, api.OK))
				s.completes(t, k, list, each(3, s.version))
			}
		}
	}
}

// A Swapped with OK and another version is nothing; with an error its version is not asked for.
func TestSwappedWithAnotherVersion(t *testing.T) {
	c := many(3, 2, 3, 9)
	for _, s := range going() {
		if s.phase != swap {
			continue
		}
		for _, version := range []int{leastInt, -1, 0, s.version - 1, s.version + 1, last, mostInt} {
			for node := range 3 {
				k := s.at(t, c)
				takeIs(t, k, reply(swap, node, s.job, version, api.OK), nil)
				s.unmoved(t, "OK and another version", k, c)
				k = s.at(t, c)
				takeIs(t, k, reply(swap, node, s.job, version, api.OK), nil)
				takeIs(t, k, reply(swap, node, s.job, version, api.ErrAbsent), s.backs(3))
			}
		}
	}
}

// Fields that are not named may be anything.
func TestAnswersWithOtherFields(t *testing.T) {
	for _, s := range going() {
		for _, x := range []int{leastInt, -1, 0, 1, 2, 63, 65, most, mostInt} {
			for _, text := range []string{"", "k", strings.Repeat("x", 5000)} {
				change := func(m api.Msg) api.Msg {
					m.To, m.Prev, m.Key, m.Value = x, x, text, text
					if s.phase == fetch || s.phase == look {
						m.Seq = x
					}
					if s.phase == look {
						m.Epoch = x
					}
					return m
				}
				k := s.at(t, many(2, 2, 3, 9))
				takeIs(t, k, change(s.answer(1, api.OK)), nil)
				list, _ := k.Take(change(s.answer(0, api.OK)))
				s.completes(t, k, list, each(2, s.version))
				if s.takesBack() {
					takeIs(t, s.at(t, many(2, 2, 3, 9)), change(s.answer(1, api.ErrFull)), s.backs(2))
				}
			}
		}
	}
}

// What a node holds is what it told, whatever number that is: -1 too is an answer.
func TestHoldsAnyNumber(t *testing.T) {
	numbers := []int{leastInt, -2, -1, 0, 1, last, last + 1, most, mostInt}
	for _, s := range going() {
		if s.takesBack() {
			continue
		}
		for _, a := range numbers {
			for _, b := range numbers {
				k := s.at(t, many(2, 2, 3, 9))
				takeIs(t, k, reply(s.phase, 0, s.job, a, api.OK), nil)
				takeIs(t, k, reply(s.phase, 0, s.job, b, api.OK), nil)
				list, _ := k.Take(reply(s.phase, 1, s.job, b, api.OK))
				s.completes(t, k, list, []int{a, b})
			}
		}
	}
}

var codes = []api.Errno{1, 2, 80, api.ErrQuota, api.ErrStale, api.ErrAbsent, 65535, -1, api.Errno(leastInt), api.Errno(mostInt)}

// An error of the first, a middle and the last node, with none, one or all others having answered.
func TestRefusals(t *testing.T) {
	for _, n := range []int{1, 2, 3, 5, 16} {
		c := many(n, 2, 3, 9)
		for _, s := range going() {
			for _, node := range []int{0, n / 2, n - 1} {
				for _, answers := range [][]int{nil, without(n, node)[:min(n-1, 1)], without(n, node)} {
					k := s.at(t, c)
					for _, other := range answers {
						takeIs(t, k, s.answer(other, api.OK), nil)
					}
					s.refuses(t, k, c, node, answers)
				}
			}
		}
	}
}

// refuses lets a node answer with each code: the phase back begins, with every node to be asked, or nothing happens.
func (s station) refuses(t *testing.T, k *Control, c api.Cluster, node int, answers []int) {
	t.Helper()
	n := len(c.Nodes)
	if s.takesBack() {
		takeIs(t, k, s.answer(node, codes[(node+len(answers))%len(codes)]), s.backs(n))
		is(t, "Busy", k.Busy(), true)
		takeIs(t, k, s.answer(node, api.ErrFull), nil)
		takeIs(t, k, s.answer(node, api.OK), nil)
		sent(t, "the last Backed", answered(t, k, back, n, s.job, 5), api.OK, nil)
		reportIs(t, k, s.job, s.kind, s.version, api.Restored, each(n, 5))
		return
	}
	for _, code := range codes {
		takeIs(t, k, s.answer(node, code), nil)
	}
	tickIs(t, k, nil)
	tickIs(t, k, s.messages(without(n, answers...)...)) // it has not answered
	for _, other := range without(n, append([]int{node}, answers...)...) {
		takeIs(t, k, s.answer(other, api.OK), nil)
	}
	list, _ := k.Take(s.answer(node, api.OK)) // and now it has
	s.completes(t, k, list, each(n, s.version))
}

// Each code that is not OK is one.
func TestRefusalsByEachCode(t *testing.T) {
	for _, code := range codes {
		takeIs(t, inFetch(t, east()), reply(fetch, 1, 1, 7, code), messages(back, 1, 0, 0, 1, 2))
		takeIs(t, inSwap(t, east()), reply(swap, 1, 1, 7, code), messages(back, 1, 0, 0, 1, 2))
	}
}

// A phase's own answers count in it alone: those of the phases ahead of it and behind it are nothing.
func TestAnswersOfOtherPhases(t *testing.T) {
	c := many(3, 2, 3, 9)
	for _, s := range going() {
		k := s.at(t, c)
		for _, phase := range []string{fetch, swap, back, look} {
			if phase == s.phase {
				continue
			}
			for node := range 3 {
				takeIs(t, k, reply(phase, node, s.job, s.version, api.OK), nil)
				takeIs(t, k, reply(phase, node, s.job, s.version, api.ErrStale), nil)
			}
		}
		s.unmoved(t, "answers of other phases", k, c)
	}
}

// Who answered in fetch has not answered in swap, and so on: each phase asks all nodes anew.
func TestAnswersAreOfOnePhase(t *testing.T) {
	k := inFetch(t, east())
	takeIs(t, k, reply(fetch, 2, 1, 7, api.OK), nil)
	takeIs(t, k, reply(fetch, 0, 1, 7, api.OK), nil)
	takeIs(t, k, reply(fetch, 1, 1, 7, api.OK), messages(swap, 1, 7, 0, 1, 2))
	tickIs(t, k, nil)
	tickIs(t, k, messages(swap, 1, 7, 0, 1, 2))
	takeIs(t, k, reply(swap, 0, 1, 7, api.OK), nil)
	takeIs(t, k, reply(swap, 2, 1, 7, api.OK), nil)
	tickIs(t, k, nil)
	tickIs(t, k, messages(swap, 1, 7, 1))
	takeIs(t, k, reply(swap, 1, 1, 7, api.ErrDown), messages(back, 1, 0, 0, 1, 2))
	tickIs(t, k, nil)
	tickIs(t, k, messages(back, 1, 0, 0, 1, 2))
	takeIs(t, k, reply(back, 1, 1, 6, api.OK), nil)
	tickIs(t, k, nil)
	tickIs(t, k, messages(back, 1, 0, 0, 2))
	takeIs(t, k, reply(back, 2, 1, 5, api.OK), nil)
	takeIs(t, k, reply(back, 0, 1, 0, api.OK), nil)
	reportIs(t, k, 1, 1, 7, api.Restored, []int{0, 6, 5})
}

// Without a job nothing counts, whatever comes: the answers of the job that ended, and of the next one.
func TestTakeWithoutAJob(t *testing.T) {
	c := many(3, 2, 3, 9)
	for _, s := range stations() {
		if s.phase != "" {
			continue
		}
		k := s.at(t, c)
		for _, phase := range []string{"", fetch, swap, back, look} {
			for job := range 7 {
				for node := -1; node <= 3; node++ {
					takeIs(t, k, reply(phase, node, job, 7, api.OK), nil)
					takeIs(t, k, reply(phase, node, job, 7, api.ErrFull), nil)
				}
			}
		}
		s.unmoved(t, "answers without a job", k, c)
	}
}

// What comes late of an earlier job is nothing in the next one, of the same kind or another.
func TestLateAnswers(t *testing.T) {
	for _, s := range going() {
		for kind := 1; kind <= 3; kind++ {
			version := []int{1: 7, 2: 7, 3: 0}[kind]
			phase := firstPhase(kind)
			k := s.at(t, east())
			for k.Busy() {
				k.Tick()
			}
			beginIs(t, k, kind, version, messages(phase, s.job+1, version, 0, 1, 2))
			for _, old := range []string{fetch, swap, back, look} {
				for node := range 3 {
					takeIs(t, k, reply(old, node, s.job, version, api.OK), nil)
					takeIs(t, k, reply(old, node, s.job, version, api.ErrFull), nil)
				}
			}
			tickIs(t, k, nil)
			tickIs(t, k, messages(phase, s.job+1, version, 0, 1, 2))
			toldIs(t, k, s.job, s.kind, s.version, api.Incomplete, each(3, -1), 0, 1, 2)
		}
	}
}
