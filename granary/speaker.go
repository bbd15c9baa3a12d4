package granary

import (
	"granary/api"
	"granary/frame"
)

// said is what a call of a speaker answers.
type said struct {
	out  []api.Msg
	ends []api.Outcome // of the router's alone
	code api.Errno
}

// saying is the answer of a call that knows of no outcomes.
func saying(out []api.Msg, e api.Errno) said { return said{out: out, code: e} }

// speaker is one that speaks with the nodes and is none: the controller, the auditor, the exporter, the router.
type speaker struct {
	address int
	up      func() bool
	busy    func() bool
	tick    func() said
	take    func(m api.Msg) said
	ended   func() api.Event // what is told of the job that has ended
}

// table has the speakers in the order in which they have their ticks.
func (m *Machine) table() []speaker {
	return []speaker{
		{api.AddrControl, m.control.Up, m.control.Busy, ticking(m.control.Tick), taking(m.control.Take), m.reported},
		{api.AddrAudit, always, m.audit.Busy, ticking(m.audit.Tick), taking(m.audit.Take), m.audited},
		{api.AddrExport, always, m.export.Busy, ticking(m.export.Tick), taking(m.export.Take), m.exported},
		{api.AddrClient, always, never, m.routerTick, m.routerTake, nothing},
	}
}

func always() bool { return true }
func never() bool  { return false }

// nothing is told of the router: it has no job that could end.
func nothing() api.Event { return api.Event{} }

func ticking(tick func() ([]api.Msg, api.Errno)) func() said {
	return func() said { return saying(tick()) }
}

func taking(take func(api.Msg) ([]api.Msg, api.Errno)) func(api.Msg) said {
	return func(m api.Msg) said { return saying(take(m)) }
}

func (m *Machine) routerTick() said {
	out, ends, e := m.router.Tick()
	return said{out, ends, e}
}

func (m *Machine) routerTake(msg api.Msg) said {
	out, ends, e := m.router.Take(msg)
	return said{out, ends, e}
}

func (m *Machine) reported() api.Event {
	r, _ := m.control.Report() // there is one: a job has ended
	return api.Event{Kind: api.EvReport, Report: r}
}

func (m *Machine) audited() api.Event {
	r, _ := m.audit.Report()
	return api.Event{Kind: api.EvAudited, Audited: r}
}

func (m *Machine) exported() api.Event {
	r, _ := m.export.Report()
	return api.Event{Kind: api.EvExported, Exported: r}
}

// speaker is the one at an address, if there is one.
func (m *Machine) speaker(address int) (speaker, bool) {
	for _, s := range m.speakers {
		if s.address == address {
			return s, true
		}
	}
	return speaker{}, false
}

// call does a call of a speaker and answers what came of it, or why it was refused. A speaker that goes down in a call was not refused: what the call had to say is lost with it.
func (m *Machine) call(s speaker, do func() said) ([]api.Event, api.Errno) {
	up, busy := s.up(), s.busy()
	says := do()
	switch {
	case up && !s.up():
		return down(deskNumber), api.OK // no other speaker goes down
	case says.code != api.OK:
		return nil, says.code
	}
	m.post(says.out)
	var list []api.Event
	if busy && !s.busy() {
		list = append(list, s.ended())
	}
	for _, o := range says.ends {
		list = append(list, api.Event{Kind: api.EvGot, Outcome: o})
	}
	return list, api.OK
}

// order does, as a step, a call of the speaker at an address.
func (m *Machine) order(address int, do func() said) []api.Event {
	s, _ := m.speaker(address)
	list, e := m.call(s, do)
	if e != api.OK {
		return refused(e)
	}
	return list
}

// post sends the frames of these messages; what the mail refuses is lost.
func (m *Machine) post(list []api.Msg) {
	for _, msg := range list {
		if text, e := frame.Encode(msg); e == api.OK {
			m.mail.Send(msg.From, msg.To, text)
		}
	}
}
