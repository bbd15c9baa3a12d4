package granary

import (
	"strings"
	"testing"

	"granary/api"
)

// The document's ten examples of the whole, and that of README.md.

// first is the log of example 1, but for its last two lines.
const first = `> build 1 0 1000 2 k=v
built 1 0 1 1 4 378
> swap 1
> deliver 0
> turn 0
> turn 0
> turn 0
> turn 0
> turn 0
sent 0 4 0 64 1 1 0 1 0 0 = =
> deliver 0
> deliver 0
> turn 0
sent 0 6 0 64 1 1 1 1 0 0 = =
> deliver 0
report 1 1 1 1 1 -
> get =k
> deliver 0
> turn 0
sent 0 12 0 65 1 0 0 1 0 0 =k =v
> deliver 0
got 1 0 0 1 =k =v
> get =x
> deliver 0
> turn 0
sent 0 12 0 65 2 0 0 1 0 144 =x =
> deliver 0
got 2 144 0 1 =x =
> crash 0 0 0
down 0
> turn 0
refused 141
> boot 0
up 0 0 1
`

const (
	firstEnd = "node 0 1 1 0 1 1 1\nend 0 0 0\n"

	// untilThird is the log of example 1 up to its third turn.
	untilThird = "> build 1 0 1000 2 k=v\nbuilt 1 0 1 1 4 378\n> swap 1\n> deliver 0\n> turn 0\n> turn 0\n"
	// untilSwap is that up to the turn that swaps.
	untilSwap = untilThird + "> turn 0\n> turn 0\n> turn 0\nsent 0 4 0 64 1 1 0 1 0 0 = =\n> deliver 0\n> deliver 0\n"
	// backLog is the log of a compensation whose letter is in flight, up to the report.
	backLog = "> deliver 0\n> turn 0\nsent 0 8 0 64 1 1 2 0 0 0 = =\n> deliver 0\nreport 1 1 1 2 0 -\n"
)

// stepsOf are the steps of a log.
func stepsOf(log string) string {
	steps := ""
	for _, line := range strings.SplitAfter(log, "\n") {
		if rest, ok := strings.CutPrefix(line, "> "); ok {
			steps += rest
		}
	}
	return steps
}

// logs holds that the steps of a log, played behind ONE, give that log.
func logs(t *testing.T, what, log string) {
	t.Helper()
	is(t, what, Play(one+"steps\n"+stepsOf(log)), log)
}

func TestExample1(t *testing.T) { logs(t, "example 1", first+firstEnd) }

func TestExample2(t *testing.T) {
	logs(t, "example 2", untilThird+"> turn 0 flip 3 1\nsent 0 4 0 64 1 1 0 1 0 113 = =\n> deliver 0\n"+backLog+"node 0 1 0 0 1 2 -\nend 0 0 0\n")
}

func TestExample3(t *testing.T) {
	for fault, code := range map[string]string{"forge 3 1": "114", "lost": "143", "trim 9": "113"} {
		logs(t, fault, untilThird+"> turn 0 "+fault+"\nsent 0 4 0 64 1 1 0 1 0 "+code+" = =\n> deliver 0\n"+backLog+"node 0 1 0 0 1 2 -\nend 0 0 0\n")
	}
	logs(t, "flip 10 1", strings.Replace(first, "> turn 0\n> turn 0\n> turn 0\n", "> turn 0\n> turn 0\n> turn 0 flip 10 1\n", 1)+firstEnd)
}

func TestExample4(t *testing.T) {
	for _, c := range []struct{ fuse, crash, version, end string }{
		{"3", "9", "0", "node 0 1 0 0 0 0 1\nend 0 0 1\n"},
		{"4", "9", "1", "node 0 1 1 0 1 1 1\nend 0 0 1\n"},
		{"4", "0", "0", "node 0 1 0 0 0 0 1\nend 0 0 1\n"},
		{"4", "1", "0", "node 0 1 0 0 0 0 1\nend 0 0 1\n"},
	} {
		logs(t, "fuse "+c.fuse+", crash "+c.crash, untilSwap+"> fuse 0 "+c.fuse+"\n> turn 0\ndown 0\n> boot 0\nup 0 10 0\n> crash 0 "+c.crash+" 0\n> boot 0\nup 0 0 "+c.version+"\n"+c.end)
	}
}

func TestExample5(t *testing.T) {
	logs(t, "example 5", "> deliver 0\nrefused 131\n> turn 1\nrefused 68\n> boot 0\nrefused 142\n> fuse 2 0\nrefused 68\n> stop\nrefused 151\n> swap 0\nrefused 80\n> get =\nrefused 32\n> cut 0 0\nrefused 1\nnode 0 1 0 0 0 0 -\nend 0 0 0\n")
}

func TestExample6(t *testing.T) {
	is(t, "tick", Play("tick"), "refused 0 60\n")
	is(t, "steps", Play("steps"), "refused 0 62\n")
	is(t, "tock", Play(one+"steps\ntick\ntock"), "refused 26 182\n")
}

func TestExample7(t *testing.T) {
	logs(t, "example 7", first+"> cut 0 65\n> get =k\n> tick\n> tick\n> tick\n> tick\n> tick\ngot 3 171 -1 0 =k =\nnode 0 1 1 0 1 1 1\nend 5 0 0\n")
}

func TestExample8(t *testing.T) {
	m := after(t, one, stepsOf(first))
	behind(t, m, "the audit", "audit 1\ndeliver 0\n", "")
	sum := m.Do(api.Op{Kind: api.OpTurn})
	if len(sum) != 1 || sum[0].M.Kind != api.MsgSummed || sum[0].M.Prev != 1 || len(sum[0].M.Value) != 16 {
		t.Errorf("the node tells %+v", sum)
	}
	behind(t, m, "its report", "deliver 0\n", "audited 1 1 1 - -\n")
	logs(t, "the export", first+"> export 1\n> deliver 0\n> turn 0\nsent 0 16 0 67 1 0 0 1 0 0 =k =v\n> deliver 0\n> deliver 0\n> turn 0\nsent 0 16 0 67 1 0 0 1 1 16 = =\n> deliver 0\nexported 1 1 - k=v\n"+firstEnd)
}

func TestExample9(t *testing.T) {
	logs(t, "example 9", "> build 1 0 1000 2 k=v\nbuilt 1 0 1 1 4 378\n> build 1 0 1000 2\nbuilt 1 84 0 0 0 0\n> purge 1\n> build 1 0 1000 2\nbuilt 1 84 0 0 0 0\n> swap 1\n> deliver 0\n> turn 0\n> turn 0\nsent 0 4 0 64 1 1 0 1 0 86 = =\nnode 0 1 0 0 0 0 -\nend 0 1 1\n")
}

func TestExample10(t *testing.T) {
	logs(t, "the controller loses its power", "> swap 1\n> crash -2 0 0\ndown -2\n> deliver 0\n> revive\nup -2 0 0\n> deliver 0\n> turn 0\n> turn 0\nsent 0 8 0 64 1 1 2 0 0 0 = =\n> deliver 0\nreport 1 1 1 2 0 -\nnode 0 1 0 0 1 2 -\nend 0 0 0\n")
	m := after(t, one, stepsOf(first))
	f, g, h := m.Files(0), m.Files(-1), m.Files(-2)
	x, e := Load(one, g, h, [][]api.Stored{f})
	is(t, "Load", e, api.OK)
	same(t, "the node", x.Look().Nodes[0].Has, api.State{Cur: 1, Epoch: 1, Seq: 1, Have: []int{1}})
	behind(t, x, "a get", "get =k\ndeliver 0\nturn 0\ndeliver 0\n", "sent 0 12 0 65 1 0 0 1 0 0 =k =v\ngot 1 0 0 1 =k =v\n")
	behind(t, x, "the next job", "look\ndeliver 0\nturn 0\ndeliver 0\n", "sent 0 10 0 64 2 1 1 1 0 0 = =\nreport 2 3 0 1 1 -\n")
	y, e := Load(one, g, h, nil)
	noMachine(t, "Load without a list", y, e, api.ErrArg)
}

// What README.md shows.
func TestReadme(t *testing.T) {
	m, e := New(one)
	is(t, "New", e, api.OK)
	list := m.Do(api.Op{Kind: api.OpBuild, Job: api.Job{Version: 1, Memory: 1000, FanIn: 2}, Pairs: []api.Pair{{Key: "k", Value: "v"}}})
	same(t, "the build", list, []api.Event{{Kind: api.EvBuilt, Version: 1, Built: api.Built{Pairs: 1, Kept: 1, Files: 4, Bytes: 378}}})
	is(t, "the swap", len(m.Do(api.Op{Kind: api.OpSwap, I: 1})), 0)
	v := m.Look()
	is(t, "letters", len(v.Flight), 1)
	is(t, "Busy", v.Busy, true)
	is(t, "deliver", len(m.Do(api.Op{Kind: api.OpDeliver})), 0)
	for range 4 {
		is(t, "a turn", len(m.Do(api.Op{Kind: api.OpTurn})), 0)
	}
	list = m.Do(api.Op{Kind: api.OpTurn})
	same(t, "the last block", list, []api.Event{{Kind: api.EvSent, M: api.Msg{Kind: api.MsgFetched, To: 64, Id: 1, Epoch: 1, Version: 1}}})
	same(t, "the same turn again", m.Do(api.Op{Kind: api.OpTurn, Node: 1}), []api.Event{{Kind: api.EvRefused, Code: api.ErrNode}})
	do(t, m, "deliver 0\ndeliver 0\nturn 0\n")
	list = m.Do(api.Op{Kind: api.OpDeliver})
	same(t, "the report", list, []api.Event{{Kind: api.EvReport, Report: api.Report{Job: 1, Kind: api.JobSwap, Version: 1, Outcome: api.Succeeded, Holds: []int{1}}}})
	list = m.Do(api.Op{Kind: api.OpCrash})
	same(t, "a crash", list, []api.Event{{Kind: api.EvDown}})
	list = m.Do(api.Op{Kind: api.OpBoot})
	same(t, "a boot", list, []api.Event{{Kind: api.EvUp, Version: 1}})

	other, e := Load(one, m.Files(-1), m.Files(-2), [][]api.Stored{m.Files(0)})
	is(t, "Load", e, api.OK)
	same(t, "its node", other.Look().Nodes[0].Has, api.State{Cur: 1, Epoch: 1, Seq: 1, Have: []int{1}})

	is(t, "Play", Play(one+"steps\nget =k\ndeliver 0\nturn 0\ndeliver 0\nstop\n"),
		"> get =k\n> deliver 0\n> turn 0\nsent 0 12 0 65 1 0 0 0 0 125 =k =\n> deliver 0\ngot 1 171 -1 0 =k =\n> stop\nrefused 151\nnode 0 1 0 0 0 0 -\nend 0 0 0\n")
}
