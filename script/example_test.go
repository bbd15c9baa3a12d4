package script

import (
	"errors"
	"testing"

	"granary/api"
)

// The chapter's examples, by their numbers.

func TestExample1(t *testing.T) {
	prints(t, api.Op{Kind: api.OpTick}, "tick")
	printFails(t, api.Op{Kind: api.OpTick, Node: 1}, api.ErrPrint)
}

func TestExample2(t *testing.T) {
	printFails(t, api.Op{Kind: 22}, api.ErrOp)
	printFails(t, api.Op{Kind: 0}, api.ErrOp)
	prints(t, api.Op{Kind: api.OpGetAll, Keys: []string{"a", ""}}, "getall =a =")
	prints(t, api.Op{Kind: api.OpGetAll}, "getall")
}

func TestExample3(t *testing.T) {
	prints(t, api.Op{Kind: api.OpGet, Key: "a b"}, "get =a%20b")
	prints(t, api.Op{Kind: api.OpGet}, "get =")
}

func TestExample4(t *testing.T) {
	prints(t, api.Op{Kind: api.OpBuild, Job: api.Job{Version: 3, Policy: 0, Memory: 4096, FanIn: 4}, Pairs: []api.Pair{{Key: "k", Value: "v"}, {Key: "", Value: "\x00"}}}, "build 3 0 4096 4 k=v =%00")
}

func TestExample5(t *testing.T) {
	prints(t, api.Op{Kind: api.OpTurn, Node: 2, Fault: api.Fault{Kind: api.FaultFlip, At: 7, Mask: 255}}, "turn 2 flip 7 255")
	printFails(t, api.Op{Kind: api.OpTurn, Node: 2, Fault: api.Fault{Kind: api.FaultLost, At: 1}}, api.ErrPrint)
	printFails(t, api.Op{Kind: api.OpTurn, Node: 2, Fault: api.Fault{Kind: 5}}, api.ErrPrint)
}

func TestExample6(t *testing.T) {
	parses(t, "store s\nsteps\n# first\ntick\n\ndeliver 0", "store s\n", api.Op{Kind: api.OpTick}, api.Op{Kind: api.OpDeliver})
}

func TestExample7(t *testing.T) {
	refuses(t, "tick\n", 0, api.ErrText)
	refuses(t, "", 0, api.ErrText)
}

func TestExample8(t *testing.T) {
	refuses(t, "steps\nticks\n", 2, api.ErrOp)
	refuses(t, "steps\ntick \n", 2, api.ErrWords)
	refuses(t, "steps\n tick\n", 2, api.ErrOp)
	refuses(t, "steps\ndeliver 01\n", 2, api.ErrWord)
	refuses(t, "steps\nturn 1 flop 1\n", 2, api.ErrWord)
	refuses(t, "steps\nturn 1 flip 1\n", 2, api.ErrWords)
	refuses(t, "steps\nget =%61\n", 2, api.ErrWord)
	refuses(t, "steps\nget a\n", 2, api.ErrWord)
}

func TestExample9(t *testing.T) {
	refuses(t, "steps\ntick\ndeliver -\n", 3, api.ErrWord)
	refuses(t, "steps\ndeliver 9223372036854775808\n", 2, api.ErrWord)
}

func TestExample10(t *testing.T) {
	told(t, "report 2 1 5 3 5,-1 1\n", api.Event{Kind: api.EvReport, Report: api.Report{Job: 2, Kind: 1, Version: 5, Outcome: 3, Holds: []int{5, -1}, Missing: []int{1}}})
	told(t, "lost 3\n", api.Event{Kind: api.EvLost, Node: 3})
	told(t, "event 11\n", api.Event{Kind: 11})
	told(t, "exported 1 5 - k=v =%20\n", api.Event{Kind: api.EvExported, Exported: api.Exported{Job: 1, Version: 5, Pairs: []api.Pair{{Key: "k", Value: "v"}, {Value: " "}}}})
}

// TestReadme is the example that README.md shows.
func TestReadme(t *testing.T) {
	p, err := Parse("store s\nsteps\n# one node\nbuild 1 0 1000 2 k=v\nturn 0 flip 3 1\nget =a%20b\n")
	if err != nil || p.Cluster != "store s\n" || len(p.Ops) != 3 {
		t.Fatalf("%+v, %v", p, err)
	}
	line, e := PrintOp(p.Ops[1])
	is(t, "PrintOp", line, "turn 0 flip 3 1")
	is(t, "its error", e, api.OK)
	text, e := Print(p)
	is(t, "Print", text, "store s\nsteps\nbuild 1 0 1000 2 k=v\nturn 0 flip 3 1\nget =a%20b\n")
	is(t, "its error", e, api.OK)

	_, err = Parse("store s\nsteps\ntick\ntock\n")
	is(t, "Refused", errors.Is(err, Refused), true)
	var le *LineError
	is(t, "As", errors.As(err, &le), true)
	is(t, "where and why", *le, LineError{4, api.ErrOp})
	is(t, "Error", err.Error(), "line 4: code 182")

	told := Tell([]api.Event{{Kind: api.EvUp, Node: 2, Version: 7}, {Kind: api.EvDown, Node: 2}})
	is(t, "Tell", told, "up 2 0 7\ndown 2\n")
}
