package granary

import (
	"fmt"
	"testing"

	"granary/api"
	"granary/audit"
	"granary/builder"
	"granary/digest"
	"granary/disk"
	"granary/export"
	"granary/frame"
	"granary/mail"
	"granary/node"
	"granary/router"
	"granary/steward"
)

// plainMachine is the chapter's table read plainly, one case a step, over the same layers.
type plainMachine struct {
	c     api.Cluster
	disks map[int]*disk.Disk
	nodes []*node.Node
	mail  *mail.Mail
	desk  *steward.Steward
	audit *audit.Audit
	exp   *export.Export
	route *router.Router
	now   int
	list  []api.Event // of the step that is done
}

func plainNew(c api.Cluster) *plainMachine {
	p := &plainMachine{c: c, disks: map[int]*disk.Disk{}}
	p.disks[-1], _ = disk.New(c.Depot)
	p.disks[-2], _ = disk.New(4096)
	for i := range c.Nodes {
		p.disks[i], _ = disk.New(c.Room)
		n, _ := node.New(c, i, p.disks[i])
		p.nodes = append(p.nodes, n)
	}
	p.mail, _ = mail.New(1024)
	p.desk, _ = steward.New(c, p.disks[-2])
	p.audit, _ = audit.New(c)
	p.exp, _ = export.New(c)
	p.route, _ = router.New(c)
	for _, n := range p.nodes {
		n.Boot()
	}
	out, _ := p.desk.Boot()
	p.post(out)
	return p
}

func (p *plainMachine) tell(e api.Event) { p.list = append(p.list, e) }

func (p *plainMachine) refuse(e api.Errno) {
	if e != api.OK {
		p.tell(api.Event{Kind: 1, Code: e})
	}
}

func (p *plainMachine) post(list []api.Msg) {
	for _, m := range list {
		text, e := frame.Encode(m)
		if e != api.OK {
			panic(fmt.Sprintf("no frame of %+v: %d", m, e))
		}
		p.mail.Send(m.From, m.To, text)
	}
}

// steer is a call of the controller.
func (p *plainMachine) steer(call func() ([]api.Msg, api.Errno)) api.Errno {
	up, busy := p.desk.Up(), p.desk.Busy()
	out, e := call()
	if up && !p.desk.Up() {
		p.tell(api.Event{Kind: 5, Node: -2})
		return api.OK
	}
	p.post(out)
	if busy && !p.desk.Busy() {
		r, _ := p.desk.Report()
		p.tell(api.Event{Kind: 7, Report: r})
	}
	return e
}

func (p *plainMachine) inquire(call func() ([]api.Msg, api.Errno)) api.Errno {
	busy := p.audit.Busy()
	out, e := call()
	p.post(out)
	if busy && !p.audit.Busy() {
		r, _ := p.audit.Report()
		p.tell(api.Event{Kind: 9, Audited: r})
	}
	return e
}

func (p *plainMachine) read(call func() ([]api.Msg, api.Errno)) api.Errno {
	busy := p.exp.Busy()
	out, e := call()
	p.post(out)
	if busy && !p.exp.Busy() {
		r, _ := p.exp.Report()
		p.tell(api.Event{Kind: 10, Exported: r})
	}
	return e
}

func (p *plainMachine) serve(out []api.Msg, ends []api.Outcome, e api.Errno) api.Errno {
	p.post(out)
	for _, o := range ends {
		p.tell(api.Event{Kind: 8, Outcome: o})
	}
	return e
}

func (p *plainMachine) block(n int, w api.Want, f api.Fault) (api.Errno, string, int) {
	if f.Kind == 1 {
		return 143, "", 0
	}
	data, e := builder.Block(p.disks[-1], w.Version, n, w.File, w.At, w.Size)
	if w.File == "manifest" {
		data, e = builder.Manifest(p.disks[-1], w.Version, n)
	}
	if e != api.OK {
		return e, "", 0
	}
	sum := digest.CRC(data)
	if f.Kind == 2 && f.At < len(data) {
		data = data[:max(f.At, 0)]
	}
	if (f.Kind == 3 || f.Kind == 4) && f.At >= 0 && f.At < len(data) {
		data = data[:f.At] + string([]byte{data[f.At] ^ byte(f.Mask&255)}) + data[f.At+1:]
	}
	if f.Kind == 4 {
		sum = digest.CRC(data)
	}
	return api.OK, data, sum
}

func (p *plainMachine) turn(op api.Op) {
	if op.Node < 0 || op.Node >= len(p.nodes) {
		p.refuse(68)
		return
	}
	n := p.nodes[op.Node]
	if !n.Up() {
		p.refuse(141)
		return
	}
	var frames []string
	if n.Look().Inbox > 0 {
		frames = n.Turn()
	} else if w, e := n.Want(); e == api.OK {
		frames = n.Feed(p.block(op.Node, w, op.Fault))
	}
	if !n.Up() {
		p.tell(api.Event{Kind: 5, Node: op.Node})
		return
	}
	for _, text := range frames {
		m, e := frame.Decode(text)
		if e != api.OK {
			panic(fmt.Sprintf("a node's frame: %d", e))
		}
		p.mail.Send(m.From, m.To, text)
		p.tell(api.Event{Kind: 3, Node: op.Node, M: m})
	}
}

func (p *plainMachine) deliver(i int) {
	l, e := p.mail.Deliver(i)
	if e != api.OK {
		p.refuse(e)
		return
	}
	m, e := frame.Decode(l.Frame)
	if e != api.OK {
		panic(fmt.Sprintf("a letter: %d", e))
	}
	switch {
	case l.To < len(p.nodes):
		if p.nodes[l.To].Post(l.Frame) != api.OK {
			p.tell(api.Event{Kind: 4, Node: l.To})
		}
	case l.To == 64 && !p.desk.Up():
		p.tell(api.Event{Kind: 4, Node: -2})
	case l.To == 64:
		p.steer(func() ([]api.Msg, api.Errno) { return p.desk.Take(m) })
	case l.To == 65:
		p.serve(p.route.Take(m))
	case l.To == 66:
		p.inquire(func() ([]api.Msg, api.Errno) { return p.audit.Take(m) })
	case l.To == 67:
		p.read(func() ([]api.Msg, api.Errno) { return p.exp.Take(m) })
	}
}

func (p *plainMachine) tick() {
	p.now++
	for _, n := range p.nodes {
		if n.Up() {
			n.Tick()
		}
	}
	if p.desk.Up() {
		p.steer(p.desk.Tick)
	}
	p.inquire(p.audit.Tick)
	p.read(p.exp.Tick)
	p.serve(p.route.Tick())
}

// power does the steps that concern the disks' power.
func (p *plainMachine) power(op api.Op) {
	d := p.disks[op.Node]
	isNode := op.Node >= 0 && op.Node < len(p.nodes)
	switch {
	case d == nil, op.Kind == 11 && !isNode:
		p.refuse(68)
	case op.Kind == 9:
		p.refuse(d.Arm(op.I))
	case op.Kind == 10:
		if isNode && p.nodes[op.Node].Up() {
			p.nodes[op.Node].Halt()
			p.tell(api.Event{Kind: 5, Node: op.Node})
		}
		if op.Node == -2 && p.desk.Up() {
			p.desk.Halt()
			p.tell(api.Event{Kind: 5, Node: -2})
		}
		d.Crash(op.I, op.J)
	case p.nodes[op.Node].Up():
		p.refuse(142)
	default:
		e := p.nodes[op.Node].Boot()
		p.tell(api.Event{Kind: 6, Node: op.Node, Code: e, Version: p.nodes[op.Node].Look().Has.Cur})
	}
}

func (p *plainMachine) do(op api.Op) []api.Event {
	p.list = nil
	switch op.Kind {
	case 1:
		b, e := builder.Build(p.disks[-1], p.c, op.Job, op.Pairs)
		p.tell(api.Event{Kind: 2, Version: op.Job.Version, Code: e, Built: b})
	case 2:
		p.tick()
	case 3:
		p.turn(op)
	case 4:
		p.deliver(op.I)
	case 5:
		p.refuse(p.mail.Drop(op.I))
	case 6:
		p.refuse(p.mail.Copy(op.I))
	case 7:
		p.refuse(p.mail.Cut(op.I, op.J))
	case 8:
		p.refuse(p.mail.Heal(op.I, op.J))
	case 9, 10, 11:
		p.power(op)
	case 12, 13, 20:
		kind := map[int]int{12: 1, 13: 2, 20: 3}[op.Kind]
		version := map[bool]int{true: 0, false: op.I}[op.Kind == 20]
		p.refuse(p.steer(func() ([]api.Msg, api.Errno) { return p.desk.Begin(kind, version) }))
	case 14:
		p.refuse(p.steer(p.desk.Stop))
	case 15:
		if p.desk.Up() {
			p.refuse(142)
			break
		}
		out, e := p.desk.Boot()
		p.tell(api.Event{Kind: 6, Node: -2, Code: e})
		p.post(out)
	case 16:
		_, out, e := p.route.Get(op.Key)
		p.refuse(p.serve(out, nil, e))
	case 17:
		_, out, e := p.route.GetAll(op.Keys...)
		p.refuse(p.serve(out, nil, e))
	case 18:
		p.refuse(builder.Drop(p.disks[-1], op.I))
	case 19:
		p.refuse(p.inquire(func() ([]api.Msg, api.Errno) { return p.audit.Begin(op.I) }))
	case 21:
		p.refuse(p.read(func() ([]api.Msg, api.Errno) { return p.exp.Begin(op.I) }))
	default:
		p.refuse(182)
	}
	return p.list
}

func (p *plainMachine) look() api.View {
	v := api.View{Now: p.now, Flight: p.mail.Flying(), Busy: p.desk.Busy(), Open: p.route.Open(), Auditing: p.audit.Busy(), Ruling: p.desk.Up(), Exporting: p.exp.Busy()}
	for _, n := range p.nodes {
		v.Nodes = append(v.Nodes, n.Look())
	}
	v.Built, _ = builder.Versions(p.disks[-1])
	return v
}

// plainState is all that can be seen of a plain machine, told as state does.
func plainState(p *plainMachine) string {
	text := fmt.Sprintf("%+v", p.look())
	for n := -2; n < len(p.nodes); n++ {
		text += fmt.Sprintf("\n%+v", p.disks[n].Dump())
	}
	return text
}

// pair is a machine with a plain one beside it.
type pair struct {
	t *testing.T
	m *Machine
	p *plainMachine
}

func newPair(t *testing.T, text string) *pair {
	t.Helper()
	return &pair{t, newMachine(t, text), plainNew(clusterOf(t, text))}
}

// do does a step on both; they are to tell the same.
func (x *pair) do(op api.Op) []api.Event {
	x.t.Helper()
	list, want := x.m.Do(op), x.p.do(op)
	if fmt.Sprintf("%+v", list) != fmt.Sprintf("%+v", want) {
		x.t.Fatalf("%+v tells %+v, want %+v", op, list, want)
	}
	return list
}

// hold holds all that can be seen of the two against each other.
func (x *pair) hold(what string) {
	x.t.Helper()
	if a, b := state(x.m), plainState(x.p); a != b {
		x.t.Fatalf("%s: one sees\n%.3000s\nwant\n%.3000s", what, a, b)
	}
}

// run does a text's steps on both.
func (x *pair) run(text string) {
	x.t.Helper()
	for _, op := range opsOf(x.t, text) {
		x.do(op)
	}
	x.hold(text)
}
