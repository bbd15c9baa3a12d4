package script

import (
	"errors"
	"fmt"
	"reflect"
	"slices"
	"strings"
	"testing"

	"granary/api"
)

const (
	mostInt  = int(^uint(0) >> 1)
	leastInt = -mostInt - 1
)

func is[T comparable](t *testing.T, what string, got, want T) {
	t.Helper()
	if got != want {
		t.Errorf("%s: %v, want %v", what, got, want)
	}
}

func short(x any) string {
	text := fmt.Sprintf("%+v", x)
	if s, ok := x.(string); ok {
		text = fmt.Sprintf("%q", s)
	}
	if len(text) > 400 {
		return fmt.Sprintf("%s.. (%d bytes)", text[:300], len(text))
	}
	return text
}

// Steps and plays, compared; lists without elements are all the same.

func plainOp(op api.Op) api.Op {
	if len(op.Pairs) == 0 {
		op.Pairs = nil
	}
	if len(op.Keys) == 0 {
		op.Keys = nil
	}
	return op
}

func sameOp(a, b api.Op) bool { return reflect.DeepEqual(plainOp(a), plainOp(b)) }

func samePlay(a, b api.Play) bool {
	return a.Cluster == b.Cluster && slices.EqualFunc(a.Ops, b.Ops, sameOp)
}

func isZero(p api.Play) bool { return p.Cluster == "" && len(p.Ops) == 0 }

// copyOp is a step that shares no list with another.
func copyOp(op api.Op) api.Op {
	op.Pairs, op.Keys = slices.Clone(op.Pairs), slices.Clone(op.Keys)
	return op
}

// Calls, each with what it must answer.

func prints(t *testing.T, op api.Op, want string) {
	t.Helper()
	was := copyOp(op)
	if got, e := PrintOp(op); got != want || e != api.OK {
		t.Errorf("PrintOp(%s) = %s, %d, want %s", short(op), short(got), e, short(want))
	}
	if !reflect.DeepEqual(op, was) {
		t.Errorf("behind PrintOp: %s, was %s", short(op), short(was))
	}
}

func printFails(t *testing.T, op api.Op, want api.Errno) {
	t.Helper()
	was := copyOp(op)
	if got, e := PrintOp(op); got != "" || e != want {
		t.Errorf("PrintOp(%s) = %s, %d, want the error %d", short(op), short(got), e, want)
	}
	if !reflect.DeepEqual(op, was) {
		t.Errorf("behind PrintOp: %s, was %s", short(op), short(was))
	}
}

func printsPlay(t *testing.T, p api.Play, want string) {
	t.Helper()
	if got, e := Print(p); got != want || e != api.OK {
		t.Errorf("Print(%s) = %s, %d, want %s", short(p), short(got), e, short(want))
	}
}

func printPlayFails(t *testing.T, p api.Play, want api.Errno) {
	t.Helper()
	if got, e := Print(p); got != "" || e != want {
		t.Errorf("Print(%s) = %s, %d, want the error %d", short(p), short(got), e, want)
	}
}

// parses holds that a text is read as a play.
func parses(t *testing.T, text, cluster string, ops ...api.Op) {
	t.Helper()
	want := api.Play{Cluster: cluster, Ops: ops}
	got, err := Parse(text)
	if err != nil || !samePlay(got, want) {
		t.Errorf("Parse(%s) = %s, %v, want %s", short(text), short(got), err, short(want))
	}
}

// refuses holds that a text is not read, and that the error is one of this package.
func refuses(t *testing.T, text string, line int, code api.Errno) {
	t.Helper()
	got, err := Parse(text)
	if err == nil || !isZero(got) {
		t.Errorf("Parse(%s) = %s, %v, want the error %d in line %d and no play", short(text), short(got), err, code, line)
		return
	}
	le, ok := err.(*LineError)
	if !ok || le == nil {
		t.Errorf("Parse(%s): %T is no *LineError", short(text), err)
		return
	}
	if *le != (LineError{line, code}) {
		t.Errorf("Parse(%s) = %v, want {%d %d}", short(text), *le, line, code)
	}
	var found *LineError
	if !errors.Is(err, Refused) || errors.Unwrap(err) != Refused || !errors.As(err, &found) || found != le {
		t.Errorf("Parse(%s): its error %v does not wrap Refused", short(text), err)
	}
	is(t, "Error", err.Error(), fmt.Sprintf("line %d: code %d", line, code))
}

// readsBack holds that a line is a step's own, wherever it stands.
func readsBack(t *testing.T, line string, op api.Op) {
	t.Helper()
	tick := api.Op{Kind: 2}
	parses(t, "steps\n"+line, "", op)
	parses(t, "steps\n"+line+"\n", "", op)
	parses(t, "a\nsteps\n#\ntick\n\n"+line+"\n\ntick\n", "a\n", tick, op, tick)
	prints(t, op, line)
	printsPlay(t, api.Play{Cluster: "a\n", Ops: []api.Op{tick, op, tick}}, "a\nsteps\ntick\n"+line+"\ntick\n")
}

// fails holds that a line has an error, wherever it stands and whatever comes behind it.
func fails(t *testing.T, line string, code api.Errno) {
	t.Helper()
	refuses(t, "steps\n"+line, 2, code)
	refuses(t, "steps\n"+line+"\n", 2, code)
	refuses(t, "a\nsteps\n#\ntick\n\n"+line+"\n\ntick\n", 6, code)
	for _, behind := range []string{"tock\n", "tick 1\n", "get a\n", strings.Repeat("x", 262145)} {
		refuses(t, "steps\n"+line+"\n"+behind, 2, code)
	}
}

func told(t *testing.T, want string, list ...api.Event) {
	t.Helper()
	if got := Tell(list); got != want {
		t.Errorf("Tell(%s) = %s, want %s", short(list), short(got), short(want))
	}
}

// A step of each row of the table.

type row struct {
	line string
	op   api.Op
}

func rows() []row {
	return []row{
		{"build 5 1 4096 3 k=v a%20b=", api.Op{Kind: 1, Job: api.Job{Version: 5, Policy: 1, Memory: 4096, FanIn: 3}, Pairs: []api.Pair{{Key: "k", Value: "v"}, {Key: "a b"}}}},
		{"build 5 1 4096 3", api.Op{Kind: 1, Job: api.Job{Version: 5, Policy: 1, Memory: 4096, FanIn: 3}}},
		{"tick", api.Op{Kind: 2}},
		{"turn 7", api.Op{Kind: 3, Node: 7}},
		{"turn 7 lost", api.Op{Kind: 3, Node: 7, Fault: api.Fault{Kind: 1}}},
		{"turn 7 trim 8", api.Op{Kind: 3, Node: 7, Fault: api.Fault{Kind: 2, At: 8}}},
		{"turn 7 flip 8 9", api.Op{Kind: 3, Node: 7, Fault: api.Fault{Kind: 3, At: 8, Mask: 9}}},
		{"turn 7 forge 8 9", api.Op{Kind: 3, Node: 7, Fault: api.Fault{Kind: 4, At: 8, Mask: 9}}},
		{"deliver 4", api.Op{Kind: 4, I: 4}},
		{"drop 4", api.Op{Kind: 5, I: 4}},
		{"copy 4", api.Op{Kind: 6, I: 4}},
		{"cut 4 64", api.Op{Kind: 7, I: 4, J: 64}},
		{"heal 4 64", api.Op{Kind: 8, I: 4, J: 64}},
		{"fuse -1 3", api.Op{Kind: 9, Node: -1, I: 3}},
		{"crash -2 3 5", api.Op{Kind: 10, Node: -2, I: 3, J: 5}},
		{"boot 2", api.Op{Kind: 11, Node: 2}},
		{"swap 6", api.Op{Kind: 12, I: 6}},
		{"back 6", api.Op{Kind: 13, I: 6}},
		{"stop", api.Op{Kind: 14}},
		{"revive", api.Op{Kind: 15}},
		{"get =k", api.Op{Kind: 16, Key: "k"}},
		{"getall =k = =l", api.Op{Kind: 17, Keys: []string{"k", "", "l"}}},
		{"getall", api.Op{Kind: 17}},
		{"purge 6", api.Op{Kind: 18, I: 6}},
		{"audit 6", api.Op{Kind: 19, I: 6}},
		{"look", api.Op{Kind: 20}},
		{"export 6", api.Op{Kind: 21, I: 6}},
	}
}

// dice are numbers that are the same in every run.
type dice uint64

func (d *dice) roll(n int) int {
	*d = *d*6364136223846793005 + 1442695040888963407
	return int(uint64(*d)>>33) % n
}

// oneOf draws one of these.
func oneOf[T any](lot *dice, these ...T) T { return these[lot.roll(len(these))] }

// scribble writes over a list, and behind its end as far as its memory goes.
func scribble[T any](list []T, with T) {
	all := list[:cap(list)]
	for i := range all {
		all[i] = with
	}
	_ = append(list, with)
}

func byteText(b int) string { return string([]byte{byte(b)}) }

// isAsItIs tells of the bytes that are written as they are.
func isAsItIs(b int) bool {
	return strings.Contains("abcdefghijklmnopqrstuvwxyzABCDEFGHIJKLMNOPQRSTUVWXYZ0123456789._-", byteText(b))
}

// asWritten writes bytes.
func asWritten(text string) string {
	var out strings.Builder
	for _, b := range []byte(text) {
		if isAsItIs(int(b)) {
			out.WriteByte(b)
		} else {
			fmt.Fprintf(&out, "%%%02x", b)
		}
	}
	return out.String()
}
