package granary

import (
	"strings"
	"testing"

	"granary/api"
	"granary/digest"
)

// P24.2, step by step: what each is refused with, and what it does.

// refuses holds that a step is refused with a code and does nothing.
func refuses(t *testing.T, m *Machine, op api.Op, want api.Errno) {
	t.Helper()
	was := state(m)
	same(t, "a step that is refused", m.Do(op), []api.Event{{Kind: api.EvRefused, Code: want}})
	if now := state(m); now != was {
		t.Errorf("%+v was refused, and one sees\n%s\nthat was\n%s", op, now, was)
	}
}

// nodeNumbers are those that are no node's in a machine of so many nodes.
func nodeNumbers(count int) []int {
	return []int{-1, -2, -3, count, count + 1, 15, 16, 64, mostInt, leastInt}
}

func TestKindsThatAreNone(t *testing.T) {
	m := newMachine(t, three())
	for _, kind := range []int{0, -1, 22, 23, 100, mostInt, leastInt} {
		refuses(t, m, api.Op{Kind: kind}, api.ErrOp)
		refuses(t, m, api.Op{Kind: kind, Node: -7, I: -7, Key: "k", Keys: []string{""}, Pairs: pairsOf("a=b")}, api.ErrOp)
	}
}

// Fields that a step does not name make no difference.
func TestFieldsThatAreNotNamed(t *testing.T) {
	text := "build 1 0 1000 2 k=v\nswap 1\ndeliver 0\nturn 0\nturn 0\nturn 0 lost\ntick\nget =k\ncopy 0\ndrop 0\ncut 0 65\nheal 0 65\nstop\nlook\naudit 1\nexport 1\nfuse 0 99\ncrash 0 0 0\nboot 0\ncrash -2 0 0\nrevive\ngetall =a =b\nback 1\npurge 1\nfuse 5 5\n"
	plain, odd := newMachine(t, one), newMachine(t, one)
	for i, op := range opsOf(t, text) {
		other := op
		switch op.Kind {
		case api.OpTurn, api.OpBoot:
			other.I, other.J = 5, 6
		case api.OpFuse:
			other.J = 6
		case api.OpCrash:
		case api.OpCut, api.OpHeal:
			other.Node = 7
		case api.OpDeliver, api.OpDrop, api.OpCopy, api.OpSwap, api.OpBack, api.OpPurge, api.OpAudit, api.OpExport:
			other.Node, other.J = -5, 7
		default:
			other.Node, other.I, other.J = 9, 9, 9
		}
		if op.Kind != api.OpBuild {
			other.Job, other.Pairs = api.Job{Version: 4, Policy: 1}, pairsOf("x=y")
		}
		if op.Kind != api.OpTurn {
			other.Fault = api.Fault{Kind: 1, At: 2, Mask: 3}
		}
		if op.Kind != api.OpGet {
			other.Key = "zz"
		}
		if op.Kind != api.OpGetAll {
			other.Keys = []string{"", "z"}
		}
		same(t, "step "+digits(i), odd.Do(other), plain.Do(op))
		is(t, "behind step "+digits(i), state(odd), state(plain))
	}
}

func TestBuild(t *testing.T) {
	m := newMachine(t, three())
	for _, c := range []struct {
		job  api.Job
		list []api.Pair
		code api.Errno
	}{
		{api.Job{Version: 0, Memory: 1000, FanIn: 2}, nil, api.ErrVersion},
		{api.Job{Version: last + 1, Memory: 1000, FanIn: 2}, nil, api.ErrVersion},
		{api.Job{Version: 3, Policy: 3, Memory: 1000, FanIn: 2}, nil, api.ErrPolicy},
		{api.Job{Version: 3, FanIn: 2}, nil, api.ErrArg},
		{api.Job{Version: 3, Memory: 1000, FanIn: 17}, nil, api.ErrArg},
		{api.Job{Version: 3, Memory: 1000, FanIn: 2}, pairsOf("=v"), api.ErrKey},
		{api.Job{Version: 3, Memory: 1000, FanIn: 2}, []api.Pair{{Key: "k", Value: strings.Repeat("v", 4097)}}, api.ErrValue},
		{api.Job{Version: 3, Memory: 1000, FanIn: 2}, make([]api.Pair, 513), api.ErrCount},
		{api.Job{Version: 3, Policy: api.KeepNone, Memory: 1000, FanIn: 2}, pairsOf("a=1", "a=2"), api.ErrRepeat},
		{api.Job{Version: 3, Memory: 10, FanIn: 2}, pairsOf("a=1"), api.ErrRow},
	} {
		was := state(m)
		same(t, "a build", m.Do(api.Op{Kind: api.OpBuild, Job: c.job, Pairs: c.list}), []api.Event{{Kind: api.EvBuilt, Version: c.job.Version, Code: c.code}})
		is(t, "behind it", state(m), was)
	}
	list := m.Do(api.Op{Kind: api.OpBuild, Job: api.Job{Version: 3, Memory: 1000, FanIn: 2}, Pairs: pairsOf("a=1", "b=2", "a=3")})
	if len(list) != 1 || list[0].Built.Pairs != 3 || list[0].Built.Kept != 2 || list[0].Built.Files != 4*2*1*2+6 || list[0].Built.Bytes == 0 {
		t.Errorf("a build tells %+v", list)
	}
	list[0].Built = api.Built{}
	same(t, "a build", list, []api.Event{{Kind: api.EvBuilt, Version: 3}})
	same(t, "Built", m.Look().Built, []int{3})
	log := do(t, m, "build 3 0 1000 2\nbuild 2 0 1000 2\n")
	is(t, "the same number", log, "built 3 84 0 0 0 0\nbuilt 2 0 0 0 22 "+digits(bytesBuilt(m, 2))+"\n")
	same(t, "Built", m.Look().Built, []int{2, 3})
	small := newMachine(t, changed(one, "depot 600"))
	behind(t, small, "a depot that is too small", "build 1 0 1000 2\n", "built 1 85 0 0 0 0\n")
}

// bytesBuilt is how many bytes a version has in the depot.
func bytesBuilt(m *Machine, version int) int {
	sum := 0
	for _, s := range m.Files(-1) {
		if strings.HasPrefix(s.Path, "build-"+digits(version)+"/") {
			sum += len(s.Data)
		}
	}
	return sum
}

// Each node that is up has its tick, and then the controller, the auditor, the exporter, the router have theirs.
func TestTick(t *testing.T) {
	m := newMachine(t, changed(one, "resend 2", "limit 1", "getwait 2", "patience 2"))
	is(t, "the time", m.Look().Now, 0)
	behind(t, m, "all have something to end", "swap 1\naudit 1\nexport 1\nget =a\nget =b\ncut 0 64\ndrop 0\ndrop 0\ndrop 0\ndrop 0\ndrop 0\ntick\ntick\n",
		"audited 1 1 3 - 0\nexported 1 1 0\ngot 1 171 -1 0 =a =\ngot 2 171 -1 0 =b =\n")
	is(t, "the time", m.Look().Now, 2)
	behind(t, m, "the controller's compensation is not answered", "tick\ntick\n", "report 1 1 1 3 -1 0\n")
	is(t, "the time", m.Look().Now, 4)
	behind(t, m, "all at once, in their order", "cut 0 65\ncut 0 66\ncut 0 67\nlook\naudit 1\nexport 1\nget =c\ntick\ntick\n",
		"report 2 3 0 3 -1 0\naudited 2 1 3 - 0\nexported 2 1 0\ngot 3 171 -1 0 =c =\n")
}

// What goes out in a tick stands in flight in the parts' order.
func TestTickSends(t *testing.T) {
	m := newMachine(t, changed(three(), "resend 1", "limit 9", "getwait 1", "strikes 1", "ban 9"))
	do(t, m, "look\naudit 1\nexport 1\nget =abc\n")
	for len(m.Look().Flight) > 0 {
		do(t, m, "drop 0\n")
	}
	do(t, m, "tick\n")
	var froms []int
	for _, msg := range told(t, m.Look().Flight) {
		if n := len(froms); n == 0 || froms[n-1] != msg.From {
			froms = append(froms, msg.From)
		}
	}
	same(t, "who sends", froms, []int{api.AddrControl, api.AddrAudit, api.AddrExport, api.AddrClient})
}

// A node that is down has no tick: its time begins anew with its boot.
func TestTickOfNodes(t *testing.T) {
	m := newMachine(t, changed(one, "tries 3", "base 2", "most 2"))
	do(t, m, "build 1 0 1000 2 k=v\nswap 1\ndeliver 0\nturn 0\nturn 0 lost\n")
	behind(t, m, "behind a failure it waits", "turn 0\ntick\nturn 0\n", "")
	is(t, "the fetch", m.Look().Nodes[0].Fetch, api.FetchState{Version: 1, Phase: api.FetchRunning})
	behind(t, m, "till two ticks have gone by", "tick\nturn 0\n", "")
	is(t, "the fetch's phase", m.Look().Nodes[0].Fetch.Phase, api.FetchRunning)
	if len(m.Look().Nodes[0].Partial) != 1 {
		t.Error("the manifest did not come behind two ticks")
	}
	is(t, "the time goes on while the controller is down", do(t, m, "crash -2 0 0\ntick\ntick\n"), "down -2\n")
	is(t, "the time", m.Look().Now, 4)
}

func TestTurn(t *testing.T) {
	m := newMachine(t, three())
	for _, n := range nodeNumbers(3) {
		refuses(t, m, api.Op{Kind: api.OpTurn, Node: n}, api.ErrNode)
	}
	was := state(m)
	behind(t, m, "a node without anything to do", "turn 0\nturn 1\nturn 2 flip 0 1\n", "")
	is(t, "behind it", state(m), was)
	behind(t, m, "it is down", "crash 1 0 0\n", "down 1\n")
	refuses(t, m, api.Op{Kind: api.OpTurn, Node: 1}, api.ErrOff)
	behind(t, m, "the others are up", "turn 0\nturn 2\n", "")
	m = newMachine(t, one)
	behind(t, m, "a frame at a turn, in their order", "look\nget =k\naudit 1\ndeliver 1\ndeliver 0\ndeliver 0\nturn 0\nturn 0\nturn 0\nturn 0\n",
		"sent 0 12 0 65 1 0 0 0 0 125 =k =\nsent 0 10 0 64 1 0 0 0 0 0 = =\nsent 0 14 0 66 1 0 0 1 0 123 = =\n")
	same(t, "in flight", told(t, m.Look().Flight), []api.Msg{
		{Kind: api.MsgGot, From: 0, To: 65, Id: 1, Code: api.ErrEmpty, Key: "k"},
		{Kind: api.MsgTold, From: 0, To: 64, Id: 1},
		{Kind: api.MsgSummed, From: 0, To: 66, Id: 1, Version: 1, Code: api.ErrAbsent},
	})
}

// A frame that waits comes ahead of the fetch, whatever fault is said.
func TestTurnTakesFramesFirst(t *testing.T) {
	m := newMachine(t, one)
	behind(t, m, "the fetch waits", "build 1 0 1000 2 k=v\nswap 1\ndeliver 0\nturn 0\nget =k\ndeliver 0\nturn 0 lost\n", "built 1 0 1 1 4 378\nsent 0 12 0 65 1 0 0 0 0 125 =k =\n")
	behind(t, m, "then it goes on", "turn 0\nturn 0\nturn 0\nturn 0\n", "sent 0 4 0 64 1 1 0 1 0 0 = =\n")
}

// EvSent tells that a node sent something, whether the mail took it or not.
func TestSentAndLostOnTheWay(t *testing.T) {
	m := newMachine(t, one)
	behind(t, m, "over a link that is cut", "get =k\ndeliver 0\ncut 65 0\nturn 0\n", "sent 0 12 0 65 1 0 0 0 0 125 =k =\n")
	is(t, "in flight", len(m.Look().Flight), 0)
	behind(t, m, "nobody tells that a message of the router was lost", "get =l\ngetall =m =n\n", "")
	is(t, "in flight", len(m.Look().Flight), 0)
	is(t, "Open", m.Look().Open, 4)
	behind(t, m, "nor one of the controller, the auditor, the exporter", "cut 64 0\ncut 66 0\ncut 67 0\nswap 1\naudit 1\nexport 1\n", "")
	is(t, "in flight", len(m.Look().Flight), 0)
	v := m.Look()
	if !v.Busy || !v.Auditing || !v.Exporting {
		t.Errorf("one sees %+v", v)
	}
}

func TestMailSteps(t *testing.T) {
	m := newMachine(t, three())
	for _, kind := range []int{api.OpDeliver, api.OpDrop, api.OpCopy} {
		for _, i := range []int{0, -1, 1, mostInt, leastInt} {
			refuses(t, m, api.Op{Kind: kind, I: i}, api.ErrNoLetter)
		}
	}
	for _, kind := range []int{api.OpCut, api.OpHeal} {
		for _, ends := range [][2]int{{0, 0}, {-1, 0}, {0, -1}, {68, 0}, {0, 68}, {67, 67}, {mostInt, 3}} {
			refuses(t, m, api.Op{Kind: kind, I: ends[0], J: ends[1]}, api.ErrArg)
		}
	}
	behind(t, m, "links that are", "cut 0 67\ncut 0 67\ncut 5 9\nheal 5 9\nheal 67 0\nheal 0 1\n", "")
	do(t, m, "look\n")
	is(t, "in flight", len(m.Look().Flight), 3)
	for _, kind := range []int{api.OpDeliver, api.OpDrop, api.OpCopy} {
		refuses(t, m, api.Op{Kind: kind, I: 3}, api.ErrNoLetter)
	}
	behind(t, m, "a copy comes behind all others", "copy 1\ndrop 1\n", "")
	same(t, "the letters", idsAndTos(m), [][2]int{{1, 0}, {3, 2}, {4, 1}})
	do(t, m, "cut 1 64\n")
	refuses(t, m, api.Op{Kind: api.OpDeliver, I: 2}, api.ErrCut)
	behind(t, m, "out of their order, and once healed", "deliver 1\ndeliver 0\nheal 64 1\ndeliver 0\nturn 1\nturn 2\nturn 0\n",
		"sent 1 10 1 64 1 0 0 0 0 0 = =\nsent 2 10 2 64 1 0 0 0 0 0 = =\nsent 0 10 0 64 1 0 0 0 0 0 = =\n")
	behind(t, m, "the report", "deliver 1\ndeliver 1\ndeliver 0\n", "report 1 3 0 1 0,0,0 -\n")
}

func idsAndTos(m *Machine) [][2]int {
	var list [][2]int
	for _, l := range m.Look().Flight {
		list = append(list, [2]int{l.Id, l.To})
	}
	return list
}

// The mail is full: a copy is refused, what is sent is lost.
func TestMailThatIsFull(t *testing.T) {
	m := newMachine(t, one)
	behind(t, m, "a frame for the node", "get =k\ndeliver 0\nlook\n", "")
	for range api.MaxFlight - 1 {
		if list := m.Do(api.Op{Kind: api.OpCopy}); len(list) != 0 {
			t.Fatalf("a copy tells %+v", list)
		}
	}
	is(t, "in flight", len(m.Look().Flight), api.MaxFlight)
	refuses(t, m, api.Op{Kind: api.OpCopy}, api.ErrCrowd)
	behind(t, m, "a node sends, a get is opened", "turn 0\nget =l\n", "sent 0 12 0 65 1 0 0 0 0 125 =k =\n")
	is(t, "in flight", len(m.Look().Flight), api.MaxFlight)
	is(t, "Open", m.Look().Open, 2)
	behind(t, m, "a letter less", "drop 0\nget =m\nget =n\n", "")
	flight := m.Look().Flight
	is(t, "in flight", len(flight), api.MaxFlight)
	is(t, "the last letter", told(t, flight[api.MaxFlight-1:])[0], api.Msg{Kind: api.MsgGet, From: 65, To: 0, Id: 3, Key: "m"})
	is(t, "Open", m.Look().Open, 4)
}

func TestFuse(t *testing.T) {
	m := newMachine(t, three())
	for _, n := range nodeNumbers(3)[2:] {
		refuses(t, m, api.Op{Kind: api.OpFuse, Node: n}, api.ErrNode)
		refuses(t, m, api.Op{Kind: api.OpCrash, Node: n}, api.ErrNode)
	}
	behind(t, m, "fuses", "fuse -2 5\nfuse -1 5\nfuse 0 5\nfuse 2 -1\nfuse 1 0\n", "")
	behind(t, m, "without an act nothing comes of them", "turn 1\ntick\nget =k\naudit 1\n", "")
	is(t, "node 1", m.Look().Nodes[1].Up, true)
	behind(t, m, "the depot goes down", "fuse -1 0\nbuild 1 0 1000 2\n", "built 1 10 0 0 0 0\n")
	refuses(t, m, api.Op{Kind: api.OpFuse, Node: -1, I: 3}, api.ErrDown)
	refuses(t, m, api.Op{Kind: api.OpFuse, Node: -1, I: -1}, api.ErrDown)
	same(t, "Built", len(m.Look().Built), 0)
	behind(t, m, "and comes back", "crash -1 0 0\nfuse -1 -1\nbuild 1 0 1000 2\n", "built 1 0 0 0 22 "+digits(bytesBuilt(after(t, three(), "build 1 0 1000 2\n"), 1))+"\n")
	behind(t, m, "a fuse that was taken out", "fuse -2 0\nfuse -2 -5\nswap 1\n", "")
	is(t, "Busy", m.Look().Busy, true)
}

// after is a machine behind these steps.
func after(t *testing.T, text, steps string) *Machine {
	t.Helper()
	m := newMachine(t, text)
	do(t, m, steps)
	return m
}

func TestCrashAndBoot(t *testing.T) {
	m := newMachine(t, three())
	for _, n := range nodeNumbers(3) {
		refuses(t, m, api.Op{Kind: api.OpBoot, Node: n}, api.ErrNode)
	}
	for n := range 3 {
		refuses(t, m, api.Op{Kind: api.OpBoot, Node: n}, api.ErrOn)
	}
	refuses(t, m, api.Op{Kind: api.OpRevive}, api.ErrOn)
	behind(t, m, "the depot is nobody's", "crash -1 0 0\ncrash -1 9 9\n", "")
	behind(t, m, "down, and down again", "crash 1 0 0\ncrash 1 0 0\ncrash -2 0 0\ncrash -2 1 1\n", "down 1\ndown -2\n")
	v := m.Look()
	same(t, "node 1", v.Nodes[1], api.NodeView{Id: 1})
	is(t, "Ruling", v.Ruling, false)
	is(t, "node 0", v.Nodes[0].Up && v.Nodes[2].Up, true)
	behind(t, m, "up", "revive\nboot 1\n", "up -2 0 0\nup 1 0 0\n")
	refuses(t, m, api.Op{Kind: api.OpBoot, Node: 1}, api.ErrOn)
	refuses(t, m, api.Op{Kind: api.OpRevive}, api.ErrOn)
	v = m.Look()
	is(t, "Ruling", v.Ruling && v.Nodes[1].Up, true)
	behind(t, m, "a boot whose disk goes down", "crash 1 0 0\nfuse 1 0\nboot 1\n", "down 1\nup 1 0 0\n")
}

// A boot tells the current version, and the engine's error where it has one.
func TestBootTells(t *testing.T) {
	m := after(t, one, whole+"turn 0\ndeliver 0\n")
	same(t, "node 0", m.Look().Nodes[0].Has, api.State{Cur: 1, Epoch: 1, Seq: 1, Have: []int{1}})
	behind(t, m, "a boot", "crash 0 0 0\nboot 0\n", "down 0\nup 0 0 1\n")
	files := m.Files(0)
	for i := range files {
		if files[i].Path == "store/latest" {
			files[i].Data = "x"
		}
	}
	x, e := Load(one, nil, nil, [][]api.Stored{files})
	is(t, "Load", e, api.OK)
	is(t, "node 0", x.Look().Nodes[0].Up, false)
	behind(t, x, "a boot of a spoilt directory", "boot 0\nboot 0\nturn 0\n", "up 0 120 0\nup 0 120 0\nrefused 141\n")
}

// whole is the steps up to where the node has the order to swap in its inbox.
const whole = "build 1 0 1000 2 k=v\nswap 1\ndeliver 0\nturn 0\nturn 0\nturn 0\nturn 0\nturn 0\ndeliver 0\ndeliver 0\n"

func TestOrders(t *testing.T) {
	m := newMachine(t, three())
	for _, v := range []int{0, -1, last + 1, mostInt, leastInt} {
		refuses(t, m, api.Op{Kind: api.OpSwap, I: v}, api.ErrVersion)
		refuses(t, m, api.Op{Kind: api.OpBack, I: v}, api.ErrVersion)
		refuses(t, m, api.Op{Kind: api.OpAudit, I: v}, api.ErrVersion)
		refuses(t, m, api.Op{Kind: api.OpExport, I: v}, api.ErrVersion)
		refuses(t, m, api.Op{Kind: api.OpPurge, I: v}, api.ErrVersion)
	}
	refuses(t, m, api.Op{Kind: api.OpPurge, I: 1}, api.ErrUnbuilt)
	refuses(t, m, api.Op{Kind: api.OpStop}, api.ErrIdle)
	for i, c := range []struct {
		steps string
		want  api.Msg
	}{
		{"swap 7\n", api.Msg{Kind: api.MsgFetch, Epoch: 1, Version: 7}},
		{"back 6\n", api.Msg{Kind: api.MsgSwap, Epoch: 1, Seq: 1, Version: 6}},
		{"look\n", api.Msg{Kind: api.MsgAsk}},
		{"swap 7\nstop\n", api.Msg{Kind: api.MsgBack, Epoch: 1, Seq: 2}},
	} {
		m := newMachine(t, three())
		behind(t, m, "an order", c.steps, "")
		sent := told(t, m.Look().Flight)
		is(t, "letters of order "+digits(i), len(sent), 3+3*strings.Count(c.steps, "stop"))
		for n, msg := range sent[len(sent)-3:] {
			c.want.From, c.want.To, c.want.Id = api.AddrControl, n, 1
			is(t, "a letter", msg, c.want)
		}
		is(t, "Busy", m.Look().Busy, true)
		for _, kind := range []int{api.OpSwap, api.OpBack, api.OpLook} {
			refuses(t, m, api.Op{Kind: kind, I: 1}, api.ErrBusy)
			refuses(t, m, api.Op{Kind: kind, I: 0}, api.ErrBusy)
		}
		do(t, m, "crash -2 0 0\n")
		for _, kind := range []int{api.OpSwap, api.OpBack, api.OpLook, api.OpStop} {
			refuses(t, m, api.Op{Kind: kind, I: 1}, api.ErrOff)
		}
	}
	behind(t, newMachine(t, one), "a look that is stopped ends", "look\nstop\nlook\nstop\nstop\n", "report 1 3 0 3 -1 0\nreport 2 3 0 3 -1 0\nrefused 151\n")
}

func TestGets(t *testing.T) {
	m := newMachine(t, three())
	long := strings.Repeat("k", 256)
	refuses(t, m, api.Op{Kind: api.OpGet}, api.ErrKey)
	refuses(t, m, api.Op{Kind: api.OpGet, Key: long}, api.ErrKey)
	refuses(t, m, api.Op{Kind: api.OpGetAll, Keys: []string{"a", ""}}, api.ErrKey)
	refuses(t, m, api.Op{Kind: api.OpGetAll, Keys: []string{long, "a"}}, api.ErrKey)
	refuses(t, m, api.Op{Kind: api.OpGetAll, Keys: make([]string, 65)}, api.ErrKey)
	was := state(m)
	same(t, "a getall without keys", len(m.Do(api.Op{Kind: api.OpGetAll})), 0)
	is(t, "behind it", state(m), was)
	keys := strings.Split(strings.Repeat("k ", 64)+"k", " ")
	refuses(t, m, api.Op{Kind: api.OpGetAll, Keys: keys}, api.ErrOpen)
	same(t, "64 gets", len(m.Do(api.Op{Kind: api.OpGetAll, Keys: keys[:64]})), 0)
	is(t, "Open", m.Look().Open, 64)
	is(t, "in flight", len(m.Look().Flight), 64)
	refuses(t, m, api.Op{Kind: api.OpGet, Key: "l"}, api.ErrOpen)
	refuses(t, m, api.Op{Kind: api.OpGetAll, Keys: []string{"l"}}, api.ErrOpen)
	refuses(t, m, api.Op{Kind: api.OpGet}, api.ErrKey)
	for i, msg := range told(t, m.Look().Flight) {
		want := api.Msg{Kind: api.MsgGet, From: api.AddrClient, To: msg.To, Id: i + 1, Key: "k"}
		is(t, "a letter", msg, want)
	}
	m = newMachine(t, three())
	behind(t, m, "keys in their order", "getall =b =a =b\nget =c\n", "")
	got := ""
	for _, msg := range told(t, m.Look().Flight) {
		got += msg.Key + digits(msg.Id)
	}
	is(t, "the letters", got, "b1a2b3c4")
}

func TestAuditAndExport(t *testing.T) {
	m := newMachine(t, three())
	behind(t, m, "they begin", "audit 5\nexport 6\n", "")
	v := m.Look()
	is(t, "Auditing", v.Auditing, true)
	is(t, "Exporting", v.Exporting, true)
	var kinds []int
	for _, msg := range told(t, v.Flight) {
		kinds = append(kinds, msg.Kind, msg.To, msg.Version)
	}
	same(t, "the letters", kinds[:9], []int{api.MsgSum, 0, 5, api.MsgSum, 1, 5, api.MsgSum, 2, 5})
	is(t, "the question", kinds[9], api.MsgScan)
	is(t, "letters", len(kinds), 12)
	for _, version := range []int{1, 0} {
		refuses(t, m, api.Op{Kind: api.OpAudit, I: version}, api.ErrBusy)
		refuses(t, m, api.Op{Kind: api.OpExport, I: version}, api.ErrBusy)
	}
	behind(t, m, "nobody has the version", "deliver 0\nturn 0\ndeliver 0\nturn 1\ndeliver 0\nturn 2\n",
		"sent 0 14 0 66 1 0 0 5 0 123 = =\nsent 1 14 1 66 1 0 0 5 0 123 = =\nsent 2 14 2 66 1 0 2 5 0 123 = =\n")
	behind(t, m, "the audit ends", "deliver 1\ndeliver 1\ndeliver 1\n", "audited 1 5 3 - 0,1,2\n")
}

// A purge that is broken off has done what it has done.
func TestPurge(t *testing.T) {
	m := after(t, one, "build 1 0 1000 2 k=v\nbuild 2 0 1000 2\n")
	behind(t, m, "a purge", "purge 1\npurge 1\n", "refused 86\n")
	same(t, "Built", m.Look().Built, []int{2})
	behind(t, m, "the depot goes down in it", "fuse -1 2\npurge 2\n", "refused 10\n")
	same(t, "Built", len(m.Look().Built), 0)
	is(t, "what is there", strings.Contains(state(m), "Path:part-2/node-0/meta"), true)
	behind(t, m, "the renaming was not safe", "crash -1 0 0\npurge 2\n", "")
	m = after(t, one, "build 1 0 1000 2 k=v\nfuse -1 2\npurge 1\ncrash -1 9 0\n")
	same(t, "Built", len(m.Look().Built), 0)
	behind(t, m, "the number is used up", "build 1 0 1000 2\npurge 1\n", "built 1 84 0 0 0 0\nrefused 86\n")
}

// The controller's disk goes down in each of its calls: there is an EvDown, and nothing else comes of the call.
func TestControllerGoesDown(t *testing.T) {
	begin := "build 1 0 1000 2 k=v\nfuse -2 %\n"
	for _, order := range []string{"swap 1\n", "back 1\n", "look\n"} {
		for acts := range 5 {
			m := after(t, one, strings.Replace(begin, "%", digits(acts), 1))
			behind(t, m, "a Begin", order, "down -2\n")
			v := m.Look()
			is(t, "letters", len(v.Flight), 0)
			is(t, "Busy", v.Busy || v.Ruling, false)
			behind(t, m, "it is down", order+"stop\nrevive\n", "refused 141\nrefused 141\nup -2 10 0\n")
		}
		m := after(t, one, strings.Replace(begin, "%", "5", 1))
		behind(t, m, "a fuse that is long enough", order, "")
		is(t, "Busy", m.Look().Busy, true)
	}
	// The job's end: by a Take, a Tick, a Stop.
	for _, c := range [][2]string{
		{"back 1\ndeliver 0\nturn 0\ndeliver 0\ndeliver 0\nturn 0\n", "deliver 0\n"},
		{"back 1\nstop\ndrop 0\ndrop 0\ntick\ntick\ntick\ntick\n", "tick\n"},
	} {
		for acts := range 5 {
			m := after(t, one, c[0]+"fuse -2 "+digits(acts)+"\n")
			behind(t, m, "a job's end", c[1], "down -2\n")
			is(t, "letters", len(m.Look().Flight), 0)
			is(t, "Busy", m.Look().Busy || m.Look().Ruling, false)
		}
		if log := do(t, after(t, one, c[0]+"fuse -2 5\n"), c[1]); !strings.HasPrefix(log, "report 1 2 1 ") {
			t.Errorf("a job's end tells %q", log)
		}
	}
	m := after(t, one, "swap 1\nfuse -2 0\n")
	behind(t, m, "a call without an act", "stop\n", "")
	behind(t, m, "a boot whose disk goes down", "crash -2 0 0\nrevive\n", "down -2\nup -2 0 0\n")
	is(t, "the job goes on", m.Look().Busy, true)
}

// The controller's disk may be full of other things: a job that cannot be written is refused, one whose end cannot be written takes the controller down.
func TestControllerWithoutRoom(t *testing.T) {
	log := 63 // bytes of the log of the first job
	for _, c := range []struct {
		room  int
		first string
	}{{log - 1, "refused 15\n"}, {2*log - 1, "down -2\n"}, {2 * log, "report 1 2 1 3 -1 0\n"}} {
		filler := api.Stored{Path: "x", Kind: api.IsFile, Data: strings.Repeat("x", 4096-c.room)}
		m, e := Load(one, nil, []api.Stored{filler}, [][]api.Stored{nil})
		is(t, "Load", e, api.OK)
		is(t, "the log", do(t, m, "back 1\nstop\ntick\ntick\ntick\ntick\ntick\n")[:len(c.first)], c.first)
	}
}

// The sum that is fed with a block is the CRC of what the depot had; where there is none, it is 0.
func TestFetchedBlocks(t *testing.T) {
	m := after(t, one, "build 1 0 1000 2 k=v\n")
	manifest, meta := "", ""
	for _, s := range m.Files(-1) {
		if strings.HasSuffix(s.Path, "/manifest") {
			manifest = s.Data
		}
		if strings.HasSuffix(s.Path, "/meta") {
			meta = s.Data
		}
	}
	want := api.Want{Version: 1, File: "manifest"}
	part := api.Want{Version: 1, File: "meta", At: 3, Size: 20}
	for _, c := range []struct {
		want api.Want
		f    api.Fault
		code api.Errno
		data string
		sum  int
	}{
		{want, api.Fault{}, api.OK, manifest, digest.CRC(manifest)},
		{part, api.Fault{}, api.OK, meta[3:23], digest.CRC(meta[3:23])},
		{part, api.Fault{Kind: 5, At: 1, Mask: 1}, api.OK, meta[3:23], digest.CRC(meta[3:23])},
		{part, api.Fault{Kind: -1, At: 1, Mask: 1}, api.OK, meta[3:23], digest.CRC(meta[3:23])},
		{part, api.Fault{Kind: api.FaultLost}, api.ErrLost, "", 0},
		{want, api.Fault{Kind: api.FaultLost, At: 5}, api.ErrLost, "", 0},
		{api.Want{Version: 2, File: "meta"}, api.Fault{Kind: api.FaultLost}, api.ErrLost, "", 0},
		{api.Want{Version: 2, File: "meta"}, api.Fault{Kind: api.FaultForge}, api.ErrUnbuilt, "", 0},
		{api.Want{Version: 2, File: "manifest"}, api.Fault{}, api.ErrUnbuilt, "", 0},
		{api.Want{Version: 1, File: "5_0_0.data"}, api.Fault{Kind: api.FaultTrim}, api.ErrFile, "", 0},
		{part, api.Fault{Kind: api.FaultTrim, At: 7}, api.OK, meta[3:10], digest.CRC(meta[3:23])},
		{part, api.Fault{Kind: api.FaultTrim, At: 0}, api.OK, "", digest.CRC(meta[3:23])},
		{part, api.Fault{Kind: api.FaultTrim, At: leastInt}, api.OK, "", digest.CRC(meta[3:23])},
		{part, api.Fault{Kind: api.FaultTrim, At: 20}, api.OK, meta[3:23], digest.CRC(meta[3:23])},
		{part, api.Fault{Kind: api.FaultTrim, At: mostInt}, api.OK, meta[3:23], digest.CRC(meta[3:23])},
	} {
		same(t, "a block", m.fetch(0, c.want, c.f), block{c.code, c.data, c.sum})
	}
	for _, at := range []int{leastInt, -1, 0, 1, 19, 20, mostInt} {
		for _, mask := range []int{0, 1, 128, 255, 256, 257, 511, -1, leastInt} {
			spoilt := []byte(meta[3:23])
			if at >= 0 && at < 20 {
				spoilt[at] ^= byte(mask & 255)
			}
			same(t, "a flipped block", m.fetch(0, part, api.Fault{Kind: api.FaultFlip, At: at, Mask: mask}), block{api.OK, string(spoilt), digest.CRC(meta[3:23])})
			same(t, "a forged block", m.fetch(0, part, api.Fault{Kind: api.FaultForge, At: at, Mask: mask}), block{api.OK, string(spoilt), digest.CRC(string(spoilt))})
		}
	}
	do(t, m, "fuse -1 0\npurge 1\n")
	same(t, "the depot is down", m.fetch(0, part, api.Fault{}), block{code: api.ErrDown})
	same(t, "the depot is down", m.fetch(0, want, api.Fault{Kind: api.FaultForge}), block{code: api.ErrDown})
}
