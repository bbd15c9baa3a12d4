package node

import (
	"slices"

	"granary/api"
	"granary/engine"
	"granary/fetch"
	"granary/plain"
	"granary/throttle"
)

const swapSeq = 1 // of the Swap that follows a fetch, in the fetch's epoch

// order begins a fetch, or takes over the one that there is: either is answered when it ends. Everything else is answered now.
func (n *Node) order(m api.Msg) []api.Msg {
	s := n.engine.State()
	switch {
	case !plain.IsVersion(m.Version):
		return fetched(m, api.ErrVersion)
	case isBelow(m.Epoch, s) || n.fetch != nil && n.fetch.last.Epoch > m.Epoch:
		return fetched(m, api.ErrStale)
	case slices.Contains(s.Have, m.Version):
		return fetched(m, api.OK)
	case n.fetch != nil && n.fetch.last.Version == m.Version:
		n.fetch.last = m
		return nil
	}
	n.fetch = nil
	if e := n.makeRoom(m.Version); e != api.OK {
		return fetched(m, e)
	}
	n.fetch = n.begin(m)
	return nil
}

// isBelow tells whether the Swap of an epoch is below the fence.
func isBelow(epoch int, s api.State) bool {
	return epoch < s.Epoch || epoch == s.Epoch && swapSeq < s.Seq
}

// fetched answers a MsgFetch.
func fetched(m api.Msg, code api.Errno) []api.Msg {
	return answer(m, api.Msg{Kind: api.MsgFetched, Epoch: m.Epoch, Version: m.Version, Code: code})
}

// makeRoom takes away what a fetch of a version makes needless: what other fetches left, and old versions.
func (n *Node) makeRoom(version int) api.Errno {
	for _, other := range n.engine.Partial() {
		if other == version {
			continue
		}
		if e := fetch.Sweep(n.disk, engine.PartialDir(other)); e != api.OK {
			return e
		}
	}
	_, e := n.engine.Prune()
	return e
}

// begin is a fetch that is after the manifest.
func (n *Node) begin(m api.Msg) *fetching {
	c := n.cluster
	budget, _ := throttle.NewBudget(c.Tries, c.Base, c.Most) // a cluster that is valid has settings that a budget may have
	return &fetching{last: m, budget: budget}
}
