package granary

import (
	"granary/api"
	"granary/frame"
)

// arrive lets a letter come to where it goes.
func (m *Machine) arrive(l api.Letter) []api.Event {
	if m.hasNode(l.To) {
		if m.hosts[l.To].Post(l.Frame) != api.OK {
			return lost(l.To)
		}
		return nil
	}
	s, ok := m.speaker(l.To)
	if !ok {
		return nil
	}
	if !s.up() {
		return lost(deskNumber) // no other speaker is ever down
	}
	msg, e := frame.Decode(l.Frame)
	if e != api.OK {
		return nil
	}
	list, _ := m.call(s, func() said { return s.take(msg) }) // what a speaker does not take is told by nothing
	return list
}

// sent sends the frames of a node, and tells of each: that it was sent, not that it is in flight.
func (m *Machine) sent(number int, frames []string) []api.Event {
	var list []api.Event
	for _, text := range frames {
		msg, e := frame.Decode(text)
		if e != api.OK {
			continue
		}
		m.mail.Send(msg.From, msg.To, text)
		list = append(list, api.Event{Kind: api.EvSent, Node: number, M: msg})
	}
	return list
}
