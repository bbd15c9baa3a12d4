package granary

import (
	"strings"
	"testing"

	"granary/api"
	"granary/frame"
)

// P24.3: what becomes of a letter.

// post lays a letter into a machine's mail, as nobody in it does.
func post(t *testing.T, m *Machine, from, to int, text string) {
	t.Helper()
	if _, e := m.mail.Send(from, to, text); e != api.OK {
		t.Fatalf("Send: %d", e)
	}
}

func frameOf(t *testing.T, m api.Msg) string {
	t.Helper()
	text, e := frame.Encode(m)
	is(t, "Encode", e, api.OK)
	return text
}

// arrives delivers the one letter that is in flight, and holds what is told, and whether it did anything else than leave.
func arrives(t *testing.T, m *Machine, what string, changes bool, want ...api.Event) {
	t.Helper()
	is(t, what+": letters", len(m.Look().Flight), 1)
	before := m.Look()
	looksLike(t, what, m.Do(api.Op{Kind: api.OpDeliver}), want)
	after := m.Look()
	before.Flight, after.Flight = nil, nil
	if changes == (len(m.Look().Flight) == 0 && equal(before, after)) {
		t.Errorf("%s: one sees %+v, and saw %+v", what, after, before)
	}
}

func equal(a, b api.View) bool {
	for i := range a.Nodes {
		if a.Nodes[i].Inbox != b.Nodes[i].Inbox {
			return false
		}
	}
	return a.Open == b.Open && a.Busy == b.Busy && a.Auditing == b.Auditing && a.Exporting == b.Exporting
}

func TestLetterToNode(t *testing.T) {
	m := newMachine(t, three())
	behind(t, m, "a letter to a node that is down", "look\ncrash 1 0 0\ndeliver 1\n", "down 1\nlost 1\n")
	is(t, "in flight", len(m.Look().Flight), 2)
	behind(t, m, "seventeen frames", "deliver 1\ncopy 0\ncopy 0\ncopy 0\ncopy 0\ncopy 0\ncopy 0\ncopy 0\ncopy 0\ncopy 0\ncopy 0\ncopy 0\ncopy 0\ncopy 0\ncopy 0\ncopy 0\ncopy 0\n", "")
	behind(t, m, "sixteen fit", strings.Repeat("deliver 0\n", 16), "")
	is(t, "the inbox", m.Look().Nodes[0].Inbox, 16)
	behind(t, m, "one more does not", "deliver 0\nturn 0\n", "lost 0\nsent 0 10 0 64 1 0 0 0 0 0 = =\n")
	behind(t, m, "what waits goes with the node", "crash 0 0 0\nboot 0\nturn 0\n", "down 0\nup 0 0 0\n")
	is(t, "the inbox", m.Look().Nodes[0].Inbox, 0)
	// A node takes whatever frame comes, and does nothing for one that is none.
	for _, text := range []string{"", "no frame", frameOf(t, api.Msg{Kind: api.MsgPing, From: 64, To: 2})} {
		m := newMachine(t, three())
		post(t, m, 64, 1, text)
		arrives(t, m, "a frame", true)
		is(t, "the inbox", m.Look().Nodes[1].Inbox, 1)
		behind(t, m, "its turn", "turn 1\n", "")
		is(t, "the inbox", m.Look().Nodes[1].Inbox, 0)
	}
}

func TestLetterToController(t *testing.T) {
	m := newMachine(t, one)
	do(t, m, "look\ndeliver 0\nturn 0\ncopy 0\ncopy 0\n")
	behind(t, m, "it is up; then the job has ended", "deliver 0\ndeliver 0\n", "report 1 3 0 1 0 -\n")
	behind(t, m, "it is down", "crash -2 0 0\ndeliver 0\n", "down -2\nlost -2\n")
	is(t, "in flight", len(m.Look().Flight), 0)
	behind(t, m, "it is up again", "revive\nlook\ndeliver 0\nturn 0\ndeliver 0\n", "up -2 0 0\nsent 0 10 0 64 2 0 0 0 0 0 = =\nreport 2 3 0 1 0 -\n")
}

func TestLetterToOthers(t *testing.T) {
	m := newMachine(t, one)
	behind(t, m, "to the router", "get =k\ndeliver 0\nturn 0\ncopy 0\ndeliver 0\ndeliver 0\n", "sent 0 12 0 65 1 0 0 0 0 125 =k =\ngot 1 171 -1 0 =k =\n")
	behind(t, m, "to the auditor", "audit 3\ndeliver 0\nturn 0\ncopy 0\ndeliver 0\ndeliver 0\n", "sent 0 14 0 66 1 0 0 3 0 123 = =\naudited 1 3 3 - 0\n")
	behind(t, m, "to the exporter", "export 3\ndeliver 0\nturn 0\ncopy 0\ndeliver 0\ndeliver 0\n", "sent 0 16 0 67 1 0 0 3 0 123 = =\nexported 1 3 0\n")
	is(t, "in flight", len(m.Look().Flight), 0)
}

// What no part of the machine sends: what is no frame, and what goes to nobody, is lost, and nothing tells it; so is what is not taken.
func TestLettersThatNobodySends(t *testing.T) {
	got := api.Msg{Kind: api.MsgGot, From: 0, To: 65, Id: 1, Key: "k", Version: 3, Value: "v"}
	m := newMachine(t, one)
	for _, to := range []int{64, 65, 66, 67} {
		for _, text := range []string{"", "x", frameOf(t, got) + "x"} {
			post(t, m, 0, to, text)
			arrives(t, m, "no frame to "+digits(to), false)
		}
	}
	for _, to := range []int{1, 15, 16, 63} {
		for _, text := range []string{"", "x", frameOf(t, got)} {
			post(t, m, 0, to, text)
			arrives(t, m, "to nobody", false)
		}
	}
	do(t, m, "get =k\nlook\naudit 3\nexport 3\ndrop 0\ndrop 0\ndrop 0\ndrop 0\n")
	for to, msg := range map[int]api.Msg{
		64: {Kind: api.MsgSwapped, From: 0, To: 64, Id: 1},
		65: {Kind: api.MsgGot, From: 9, To: 65, Id: 1, Key: "k"},
		66: {Kind: api.MsgSummed, From: 0, To: 66, Id: 2, Version: 3},
		67: {Kind: api.MsgScanned, From: 0, To: 67, Id: 2, Version: 3},
	} {
		post(t, m, 0, to, frameOf(t, msg))
		arrives(t, m, "a message that is not taken", false)
	}
	post(t, m, 0, 65, frameOf(t, got))
	arrives(t, m, "one that is", true, api.Event{Kind: api.EvGot, Outcome: api.Outcome{Ticket: 1, Key: "k", Version: 3, Value: "v"}})
}

// Letters late, doubled, out of their order, over links that are cut: nothing but a node's own order of them counts.
func TestLettersInAnyOrder(t *testing.T) {
	m := newMachine(t, one)
	behind(t, m, "two jobs' letters at once", whole[:len(whole)-len("deliver 0\ndeliver 0\n")]+"copy 0\ndeliver 0\nstop\n", "built 1 0 1 1 4 378\nsent 0 4 0 64 1 1 0 1 0 0 = =\n")
	var kinds []int
	for _, msg := range told(t, m.Look().Flight) {
		kinds = append(kinds, msg.Kind)
	}
	same(t, "in flight", kinds, []int{api.MsgFetched, api.MsgSwap, api.MsgBack})
	behind(t, m, "the Back comes ahead of its Swap", "deliver 2\nturn 0\ndeliver 1\nturn 0\n", "sent 0 8 0 64 1 1 2 0 0 0 = =\nsent 0 6 0 64 1 1 1 0 0 122 = =\n")
	behind(t, m, "the answers come out of their order", "deliver 2\ndeliver 0\ncut 0 64\ndeliver 0\nheal 64 0\ndeliver 0\n", "refused 132\nreport 1 1 1 2 0 -\n")
}

// What comes late of an ended job counts in no other one.
func TestAnswersOfOtherJobs(t *testing.T) {
	m := newMachine(t, one)
	behind(t, m, "a look, whose answer is doubled", "look\ndeliver 0\nturn 0\ncopy 0\ndeliver 0\n", "sent 0 10 0 64 1 0 0 0 0 0 = =\nreport 1 3 0 1 0 -\n")
	behind(t, m, "a swap, with the copy in flight", strings.ReplaceAll(whole, "deliver 0", "deliver 1")+"turn 0\ncopy 1\ndeliver 1\n",
		"built 1 0 1 1 4 378\nsent 0 4 0 64 2 2 0 1 0 0 = =\nsent 0 6 0 64 2 2 1 1 0 0 = =\nreport 2 1 1 1 1 -\n")
	behind(t, m, "another look: the copies do not count", "look\ndeliver 0\ndeliver 0\n", "")
	behind(t, m, "its own answer does", "deliver 0\nturn 0\ndeliver 0\n", "sent 0 10 0 64 3 2 1 1 0 0 = =\nreport 3 3 0 1 1 -\n")
	behind(t, m, "jobs that are taken back, one behind the other", "back 5\nstop\ndeliver 1\nturn 0\ncopy 1\ndeliver 1\ndrop 0\n", "sent 0 8 0 64 4 4 2 1 1 0 = =\nreport 4 2 5 2 1 -\n")
	behind(t, m, "the copy does not count", "back 6\nstop\ndeliver 0\n", "")
	is(t, "Busy", m.Look().Busy, true)
	behind(t, m, "its own answer does", "drop 0\ndeliver 0\nturn 0\ndeliver 0\n", "sent 0 8 0 64 5 5 2 1 1 0 = =\nreport 5 2 6 2 1 -\n")
}
