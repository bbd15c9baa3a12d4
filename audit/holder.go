package audit

import (
	"strings"

	"granary/api"
)

const sumSize = 16 // bytes of a sum that a node tells

// holder is a node, as the auditor sees it.
type holder struct {
	slots []api.Slot // that it holds, by rising partitions
	state state
	place int // in slots: of the one that it is asked for
	times int // that this question was sent
	at    int // the time at which it was last
}

// state is how far a node is in an audit.
type state int

const (
	through state = iota // there is nothing more to ask it; so it is with a node that holds nothing
	asked
	missing
)

// contents is what a node told of a slot. Two that are not the same differ.
type contents struct {
	sum   string
	pairs int
}

// ask is a node's question for one of its slots, which is new: how often and when another was sent does not count for it.
func (a *Audit) ask(node, place int) api.Msg {
	h := &a.holders[node]
	h.state, h.place, h.times = asked, place, 0
	return a.send(node)
}

// send is a node's question of now, which goes out.
func (a *Audit) send(node int) api.Msg {
	h := &a.holders[node]
	h.times++
	h.at = a.now
	return api.Msg{Kind: api.MsgSum, From: api.AddrAudit, To: node, Id: a.number, Seq: h.slots[h.place].Part, Version: a.version}
}

// due are the nodes whose question has had its time, rising.
func (a *Audit) due() []int {
	var nodes []int
	for node, h := range a.holders {
		if h.state == asked && a.now-h.at >= a.resend {
			nodes = append(nodes, node)
		}
	}
	return nodes
}

// isAnswer tells whether a message answers the question of now of a node that is asked.
func (a *Audit) isAnswer(m api.Msg) bool {
	if m.Kind != api.MsgSummed || m.Id != a.number || m.Version != a.version || m.From < 0 || m.From >= len(a.holders) {
		return false
	}
	h := a.holders[m.From]
	return h.state == asked && m.Seq == h.slots[h.place].Part
}

// hear lets a node's answer come, and tells what is asked next.
func (a *Audit) hear(m api.Msg) []api.Msg {
	if m.Code != api.OK || len(m.Value) != sumSize {
		a.leave(m.From, missing)
		return nil
	}
	h := a.holders[m.From]
	// A sum that is a piece of a longer text would keep all of it, if it were not copied.
	a.told[h.slots[h.place]] = contents{sum: strings.Clone(m.Value), pairs: m.Prev}
	if next := h.place + 1; next < len(h.slots) {
		return []api.Msg{a.ask(m.From, next)}
	}
	a.leave(m.From, through)
	return nil
}

// leave lets a node be asked no more. With the last one the audit ends: what it came to is all that is kept of it.
func (a *Audit) leave(node int, s state) {
	a.holders[node].state = s
	if a.Busy() {
		return
	}
	a.last = a.report()
	clear(a.told)
}
