package node

import (
	"granary/api"
	"granary/frame"
)

// hear does what a frame asks for, and tells what is to be said to that. What is no frame, or another's, is let go.
func (n *Node) hear(text string) []api.Msg {
	m, e := frame.Decode(text)
	if e != api.OK || m.To != n.id {
		return nil
	}
	switch m.Kind {
	case api.MsgPing:
		return answer(m, api.Msg{Kind: api.MsgPong})
	case api.MsgAsk:
		return n.tell(m)
	case api.MsgGet:
		return n.get(m)
	case api.MsgSum:
		return n.sum(m)
	case api.MsgScan:
		return n.scan(m)
	case api.MsgSwap:
		return n.swap(m)
	case api.MsgBack:
		return n.back(m)
	case api.MsgFetch:
		return n.order(m)
	}
	return nil
}

// answer sends a back to where m came from.
func answer(m, a api.Msg) []api.Msg {
	a.From, a.To, a.Id = m.To, m.From, m.Id
	return []api.Msg{a}
}

func (n *Node) tell(m api.Msg) []api.Msg {
	s := n.engine.State()
	return answer(m, api.Msg{Kind: api.MsgTold, Epoch: s.Epoch, Seq: s.Seq, Version: s.Cur, Prev: s.Prev})
}

func (n *Node) get(m api.Msg) []api.Msg {
	found, e := n.engine.Get(m.Key)
	if e == api.OK && !found.Found {
		e = api.ErrNoKey
	}
	return answer(m, api.Msg{Kind: api.MsgGot, Version: found.Version, Code: e, Key: m.Key, Value: found.Value})
}

// sum is asked for a partition by the Seq, and tells the number of pairs by the Prev.
func (n *Node) sum(m api.Msg) []api.Msg {
	sum, count, e := n.engine.Sum(m.Version, m.Seq)
	return answer(m, api.Msg{Kind: api.MsgSummed, Seq: m.Seq, Version: m.Version, Prev: count, Code: e, Value: sum})
}

// scan is asked for a partition by the Seq, and for the place in it by the Prev.
func (n *Node) scan(m api.Msg) []api.Msg {
	p, e := n.engine.Entry(m.Version, m.Seq, m.Prev)
	return answer(m, api.Msg{Kind: api.MsgScanned, Seq: m.Seq, Version: m.Version, Prev: m.Prev, Code: e, Key: p.Key, Value: p.Value})
}

func (n *Node) swap(m api.Msg) []api.Msg {
	return n.ordered(m, api.MsgSwapped, n.engine.Swap(m.Version, m.Epoch, m.Seq))
}

// back lets go of a fetch too, if it is not of a later job than the one that is undone.
func (n *Node) back(m api.Msg) []api.Msg {
	e := n.engine.Rollback(m.Epoch, m.Seq)
	if e == api.OK && n.fetch != nil && n.fetch.last.Epoch <= m.Epoch {
		n.fetch = nil
	}
	return n.ordered(m, api.MsgBacked, e)
}

// ordered answers an order: what came of it, and what the node holds behind it.
func (n *Node) ordered(m api.Msg, kind int, e api.Errno) []api.Msg {
	s := n.engine.State()
	return answer(m, api.Msg{Kind: kind, Epoch: m.Epoch, Seq: m.Seq, Version: s.Cur, Prev: s.Prev, Code: e})
}
