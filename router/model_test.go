package router

import (
	"slices"

	"granary/api"
	"granary/ring"
)

// The plain reading of the chapter: all gets that ever were stand in a list by their tickets, each with the owners that it has asked and those that it has still to ask; the nodes' strikes and bans' ends stand beside them.

type request struct {
	key   string
	asked []int
	still []int
	at    int // the time at which it asked last
	ended bool
}

type reading struct {
	c       api.Cluster
	time    int
	strikes []int
	ends    []int
	gets    []*request // the ticket is the place, from 1 on
}

func readNew(c api.Cluster) (*reading, api.Errno) {
	if e := ring.Check(c); e != api.OK {
		return nil, e
	}
	return &reading{c: c, strikes: make([]int, len(c.Nodes)), ends: make([]int, len(c.Nodes))}, api.OK
}

func (r *reading) silent(node int) bool { return r.time < r.ends[node] }

func (r *reading) open() int {
	n := 0
	for _, g := range r.gets {
		if !g.ended {
			n++
		}
	}
	return n
}

// row picks the owners one by one: each time the first of those that are best among them.
func (r *reading) row(key string) []int {
	place, _ := ring.Locate(r.c, key)
	left, _ := ring.Owners(r.c, place.Part)
	var row []int
	for len(left) > 0 {
		best := left[0]
		for _, node := range left[1:] {
			if r.ahead(node, best) {
				best = node
			}
		}
		row = append(row, best)
		left = slices.DeleteFunc(left, func(node int) bool { return node == best })
	}
	return row
}

// ahead tells whether a node is asked ahead of another that stands before it among the owners.
func (r *reading) ahead(node, other int) bool {
	switch {
	case r.silent(node) != r.silent(other):
		return r.silent(other)
	case r.silent(node) && r.ends[node] != r.ends[other]:
		return r.ends[node] < r.ends[other]
	}
	return r.c.Nodes[node].Zone == r.c.Home && r.c.Nodes[other].Zone != r.c.Home
}

func (r *reading) get(keys ...string) (int, []api.Msg, api.Errno) {
	for _, key := range keys {
		if len(key) < 1 || len(key) > 255 {
			return 0, nil, api.ErrKey
		}
	}
	if r.open()+len(keys) > 64 {
		return 0, nil, api.ErrOpen
	}
	if len(keys) == 0 {
		return 0, nil, api.OK
	}
	first := len(r.gets) + 1
	var list []api.Msg
	for _, key := range keys {
		r.gets = append(r.gets, &request{key: key, still: r.row(key)})
		sent, _ := r.goOn(len(r.gets))
		list = append(list, sent...)
	}
	return first, list, api.OK
}

func (r *reading) goOn(ticket int) ([]api.Msg, []api.Outcome) {
	g := r.gets[ticket-1]
	if len(g.still) == 0 {
		g.ended = true
		return nil, ends(unanswered(ticket, g.key))
	}
	next := g.still[0]
	g.asked, g.still, g.at = append(g.asked, next), g.still[1:], r.time
	return out(ask(next, ticket, g.key)), nil
}

func (r *reading) take(m api.Msg) ([]api.Msg, []api.Outcome, api.Errno) {
	if m.To != 65 || m.Kind != 2 && m.Kind != 12 {
		return nil, nil, api.ErrArg
	}
	if m.From < 0 || m.From >= len(r.c.Nodes) {
		return nil, nil, api.ErrNode
	}
	r.strikes[m.From], r.ends[m.From] = 0, 0
	if m.Kind == 2 || m.Id < 1 || m.Id > len(r.gets) {
		return nil, nil, api.OK
	}
	g := r.gets[m.Id-1]
	if g.ended || g.key != m.Key || !slices.Contains(g.asked, m.From) {
		return nil, nil, api.OK
	}
	if m.Code == 0 || m.Code == 144 {
		g.ended = true
		if m.Code == 144 {
			return nil, ends(lacks(m.Id, m.Key, m.From, m.Version)), api.OK
		}
		return nil, ends(found(m.Id, m.Key, m.From, m.Version, m.Value)), api.OK
	}
	if m.From != g.asked[len(g.asked)-1] {
		return nil, nil, api.OK
	}
	sent, done := r.goOn(m.Id)
	return sent, done, api.OK
}

func (r *reading) tick() ([]api.Msg, []api.Outcome) {
	r.time++
	var sent []api.Msg
	var done []api.Outcome
	for i, g := range r.gets {
		if g.ended || g.at != r.time-r.c.GetWait {
			continue
		}
		node := g.asked[len(g.asked)-1]
		r.strikes[node]++
		if r.strikes[node] >= r.c.Strikes {
			r.ends[node] = r.time + r.c.Ban
		}
		m, o := r.goOn(i + 1)
		sent, done = append(sent, m...), append(done, o...)
	}
	for node := range r.c.Nodes {
		if r.time%r.c.GetWait == 0 && r.silent(node) {
			sent = append(sent, ping(node, r.time))
		}
	}
	return sent, done
}
