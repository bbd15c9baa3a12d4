package audit

import (
	"slices"

	"granary/api"
	"granary/ring"
)

// The plain reading of the chapter: all that was sent, told and given up in an audit, in lists; how a node stands is read out of them anew each time.

type sending struct{ node, part, at int }

type saying struct {
	node, part, pairs int
	sum               string
}

type reading struct {
	resend, limit int
	lists         [][]int // by node: the partitions that it holds
	time          int
	number        int
	version       int
	open          bool // an audit goes on
	sendings      []sending
	sayings       []saying
	gone          []int // nodes that are missing
	report        *api.Audited
}

func readNew(c api.Cluster) *reading {
	r := &reading{resend: c.Resend, limit: c.Limit}
	for node := range c.Nodes {
		var list []int
		for part := range api.MaxParts {
			if owners, _ := ring.Owners(c, part); slices.Contains(owners, node) {
				list = append(list, part)
			}
		}
		r.lists = append(r.lists, list)
	}
	return r
}

// wanted is the partition for which a node is asked, if it is.
func (r *reading) wanted(node int) (int, bool) {
	if !r.open || node < 0 || node >= len(r.lists) || slices.Contains(r.gone, node) {
		return 0, false
	}
	rest := r.lists[node]
	for _, s := range r.sayings {
		if s.node == node {
			rest = rest[1:]
		}
	}
	if len(rest) == 0 {
		return 0, false
	}
	return rest[0], true
}

func (r *reading) send(node int) api.Msg {
	part, _ := r.wanted(node)
	r.sendings = append(r.sendings, sending{node, part, r.time})
	return question(r.number, r.version, node, part)
}

// history is how often a node's question of now was sent, and when last.
func (r *reading) history(node int) (times, last int) {
	part, _ := r.wanted(node)
	for _, s := range r.sendings {
		if s.node == node && s.part == part {
			times, last = times+1, s.at
		}
	}
	return times, last
}

func (r *reading) begin(version int) ([]api.Msg, api.Errno) {
	if r.open {
		return nil, api.ErrBusy
	}
	if version < 1 || version > 999999 {
		return nil, api.ErrVersion
	}
	r.number, r.version, r.open = r.number+1, version, true
	r.sendings, r.sayings, r.gone = nil, nil, nil
	var list []api.Msg
	for node := range r.lists {
		if _, ok := r.wanted(node); ok {
			list = append(list, r.send(node))
		}
	}
	return list, api.OK
}

func (r *reading) take(m api.Msg) []api.Msg {
	part, ok := r.wanted(m.From)
	if !ok || m.Kind != api.MsgSummed || m.Id != r.number || m.Seq != part || m.Version != r.version {
		return nil
	}
	defer r.settle()
	if m.Code != api.OK || len(m.Value) != 16 {
		r.gone = append(r.gone, m.From)
		return nil
	}
	r.sayings = append(r.sayings, saying{m.From, part, m.Prev, m.Value})
	if _, ok := r.wanted(m.From); ok {
		return []api.Msg{r.send(m.From)}
	}
	return nil
}

func (r *reading) tick() []api.Msg {
	r.time++
	if !r.open {
		return nil
	}
	defer r.settle()
	var list []api.Msg
	for node := range r.lists {
		if _, ok := r.wanted(node); !ok {
			continue
		}
		times, last := r.history(node)
		switch {
		case r.time-last < r.resend:
		case times == r.limit:
			r.gone = append(r.gone, node)
		default:
			list = append(list, r.send(node))
		}
	}
	return list
}

// settle ends an audit in which nobody is asked any more.
func (r *reading) settle() {
	for node := range r.lists {
		if _, ok := r.wanted(node); ok {
			return
		}
	}
	r.open = false
	slices.Sort(r.gone)
	told := &api.Audited{Job: r.number, Version: r.version, Outcome: 1, Missing: r.gone}
	for part := range api.MaxParts {
		if r.differs(part) {
			told.Differ = append(told.Differ, part)
		}
	}
	if len(told.Missing) > 0 {
		told.Outcome = 3
	}
	if len(told.Differ) > 0 {
		told.Outcome = 2
	}
	r.report = told
}

// differs holds every two that told of a partition against one another.
func (r *reading) differs(part int) bool {
	for _, x := range r.sayings {
		for _, y := range r.sayings {
			if x.part == part && y.part == part && (x.sum != y.sum || x.pairs != y.pairs) {
				return true
			}
		}
	}
	return false
}
