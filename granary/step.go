package granary

import (
	"granary/api"
	"granary/builder"
)

// step is a kind of step and the machine's method that does it.
type step struct {
	kind int
	do   func(m *Machine, op api.Op) []api.Event
}

func steps() []step {
	return []step{
		{api.OpBuild, (*Machine).build},
		{api.OpTick, (*Machine).tick},
		{api.OpTurn, (*Machine).turn},
		{api.OpDeliver, (*Machine).deliver},
		{api.OpDrop, (*Machine).drop},
		{api.OpCopy, (*Machine).copy},
		{api.OpCut, (*Machine).cut},
		{api.OpHeal, (*Machine).heal},
		{api.OpFuse, (*Machine).fuse},
		{api.OpCrash, (*Machine).crash},
		{api.OpBoot, (*Machine).boot},
		{api.OpSwap, (*Machine).swap},
		{api.OpBack, (*Machine).back},
		{api.OpStop, (*Machine).stop},
		{api.OpRevive, (*Machine).revive},
		{api.OpGet, (*Machine).get},
		{api.OpGetAll, (*Machine).getAll},
		{api.OpPurge, (*Machine).purge},
		{api.OpAudit, (*Machine).beginAudit},
		{api.OpLook, (*Machine).look},
		{api.OpExport, (*Machine).beginExport},
	}
}

func refused(e api.Errno) []api.Event { return []api.Event{{Kind: api.EvRefused, Code: e}} }

// done is what is told of a step of which nothing is told but a refusal.
func done(e api.Errno) []api.Event {
	if e != api.OK {
		return refused(e)
	}
	return nil
}

func down(number int) []api.Event { return []api.Event{{Kind: api.EvDown, Node: number}} }

func lost(number int) []api.Event { return []api.Event{{Kind: api.EvLost, Node: number}} }

func (m *Machine) build(op api.Op) []api.Event {
	built, e := builder.Build(m.depot, m.cluster, op.Job, op.Pairs)
	return []api.Event{{Kind: api.EvBuilt, Version: op.Job.Version, Code: e, Built: built}}
}

func (m *Machine) tick(api.Op) []api.Event {
	m.now++
	for _, h := range m.hosts {
		h.Tick() // one that is not up has none
	}
	var list []api.Event
	for _, s := range m.speakers {
		told, _ := m.call(s, s.tick) // a controller that is not up has none
		list = append(list, told...)
	}
	return list
}

func (m *Machine) turn(op api.Op) []api.Event {
	if !m.hasNode(op.Node) {
		return refused(api.ErrNode)
	}
	h := m.hosts[op.Node]
	if !h.Up() {
		return refused(api.ErrOff)
	}
	frames := m.work(op)
	if !h.Up() {
		return down(op.Node)
	}
	return m.sent(op.Node, frames)
}

// work lets a node do a frame that waits; where none does, it goes on with its fetch.
func (m *Machine) work(op api.Op) []string {
	h := m.hosts[op.Node]
	if h.Look().Inbox > 0 {
		return h.Turn()
	}
	want, e := h.Want()
	if e != api.OK {
		return nil
	}
	b := m.fetch(op.Node, want, op.Fault)
	return h.Feed(b.code, b.data, b.sum)
}

func (m *Machine) deliver(op api.Op) []api.Event {
	letter, e := m.mail.Deliver(op.I)
	if e != api.OK {
		return refused(e)
	}
	return m.arrive(letter)
}

func (m *Machine) drop(op api.Op) []api.Event { return done(m.mail.Drop(op.I)) }

func (m *Machine) copy(op api.Op) []api.Event { return done(m.mail.Copy(op.I)) }

func (m *Machine) cut(op api.Op) []api.Event { return done(m.mail.Cut(op.I, op.J)) }

func (m *Machine) heal(op api.Op) []api.Event { return done(m.mail.Heal(op.I, op.J)) }

func (m *Machine) fuse(op api.Op) []api.Event {
	d, e := m.diskOf(op.Node)
	if e != api.OK {
		return refused(e)
	}
	return done(d.Arm(op.I))
}

func (m *Machine) crash(op api.Op) []api.Event {
	d, e := m.diskOf(op.Node)
	if e != api.OK {
		return refused(e)
	}
	var list []api.Event
	if m.halt(op.Node) == api.OK {
		list = down(op.Node)
	}
	d.Crash(op.I, op.J)
	return list
}

func (m *Machine) boot(op api.Op) []api.Event {
	if !m.hasNode(op.Node) {
		return refused(api.ErrNode)
	}
	h := m.hosts[op.Node]
	if h.Up() {
		return refused(api.ErrOn)
	}
	e := h.Boot()
	return []api.Event{{Kind: api.EvUp, Node: op.Node, Code: e, Version: h.Look().Has.Cur}}
}

func (m *Machine) swap(op api.Op) []api.Event { return m.begin(api.JobSwap, op.I) }

func (m *Machine) back(op api.Op) []api.Event { return m.begin(api.JobBack, op.I) }

func (m *Machine) look(api.Op) []api.Event { return m.begin(api.JobLook, 0) }

// begin gives the controller a job.
func (m *Machine) begin(kind, version int) []api.Event {
	return m.order(api.AddrControl, func() said { return saying(m.control.Begin(kind, version)) })
}

func (m *Machine) stop(api.Op) []api.Event {
	return m.order(api.AddrControl, func() said { return saying(m.control.Stop()) })
}

func (m *Machine) revive(api.Op) []api.Event {
	if m.control.Up() {
		return refused(api.ErrOn)
	}
	out, e := m.control.Boot()
	m.post(out)
	return []api.Event{{Kind: api.EvUp, Node: deskNumber, Code: e}}
}

func (m *Machine) get(op api.Op) []api.Event {
	return m.ask(func() (int, []api.Msg, api.Errno) { return m.router.Get(op.Key) })
}

func (m *Machine) getAll(op api.Op) []api.Event {
	return m.ask(func() (int, []api.Msg, api.Errno) { return m.router.GetAll(op.Keys...) })
}

// ask lets the router open gets. Which tickets they have is seen when they end.
func (m *Machine) ask(open func() (int, []api.Msg, api.Errno)) []api.Event {
	return m.order(api.AddrClient, func() said {
		_, out, e := open()
		return saying(out, e)
	})
}

func (m *Machine) purge(op api.Op) []api.Event { return done(builder.Drop(m.depot, op.I)) }

func (m *Machine) beginAudit(op api.Op) []api.Event {
	return m.order(api.AddrAudit, func() said { return saying(m.audit.Begin(op.I)) })
}

func (m *Machine) beginExport(op api.Op) []api.Event {
	return m.order(api.AddrExport, func() said { return saying(m.export.Begin(op.I)) })
}
