package audit

import (
	"fmt"
	"reflect"
	"slices"
	"strings"
	"testing"

	"granary/api"
)

const (
	mostInt  = int(^uint(0) >> 1)
	leastInt = -mostInt - 1
	sumS     = "the sum S, 16 by"
	sumT     = "the sum T, 16 by"
	sumU     = "\x00\xff: bytes of any" // sixteen too
)

func is[T comparable](t *testing.T, what string, got, want T) {
	t.Helper()
	if got != want {
		t.Errorf("%s: %v, want %v", what, got, want)
	}
}

func same(t *testing.T, what string, got, want any) {
	t.Helper()
	if !reflect.DeepEqual(got, want) {
		t.Errorf("%s: %+v, want %+v", what, got, want)
	}
}

// Clusters.

// cluster has nodes with these partitions.
func cluster(replicas, resend, limit int, parts ...[]int) api.Cluster {
	c := api.Cluster{
		Store: "east", Replicas: replicas, Width: 1, Chunks: 2, Retain: 2,
		Block: 64, Rate: 64, Per: 1, Burst: 64, Tries: 3, Base: 1, Most: 8, Quota: 100000,
		Room: 100000, Depot: 100000, Resend: resend, Limit: limit, Patience: 50, GetWait: 2, Strikes: 2, Ban: 10,
	}
	for i, list := range parts {
		c.Nodes = append(c.Nodes, api.NodeDef{Zone: i % 8, Parts: list})
	}
	return c
}

// east is the cluster E of chapter 6: node 0 holds the partitions 0 1 2 3, node 1 0 and 1, node 2 2 and 3.
func east() api.Cluster { return cluster(2, 2, 3, []int{0, 2}, []int{1}, []int{3}) }

// pace is E with another Resend and Limit.
func pace(resend, limit int) api.Cluster {
	c := east()
	c.Resend, c.Limit = resend, limit
	return c
}

// round is a cluster in which each node has the partition of its number: the owners of p are p, p + 1 and so on, round the ring.
func round(nodes, replicas, resend, limit int) api.Cluster {
	var parts [][]int
	for i := range nodes {
		parts = append(parts, []int{i})
	}
	return cluster(replicas, resend, limit, parts...)
}

// eastLists are what E's nodes hold, as the chapter says it.
func eastLists() [][]int { return [][]int{{0, 1, 2, 3}, {0, 1}, {2, 3}} }

// Messages, field by field.

func question(job, version, node, part int) api.Msg {
	return api.Msg{Kind: 13, From: 66, To: node, Id: job, Seq: part, Version: version}
}

func answer(job, version, node, part, pairs int, sum string) api.Msg {
	return api.Msg{Kind: 14, From: node, To: 66, Id: job, Seq: part, Version: version, Prev: pairs, Value: sum}
}

// refusal is an answer with an error.
func refusal(job, version, node, part int, code api.Errno) api.Msg {
	return api.Msg{Kind: 14, From: node, To: 66, Id: job, Seq: part, Version: version, Code: code}
}

func out(list ...api.Msg) []api.Msg { return list }

// first are the questions that E's nodes are asked first.
func first(job, version int) []api.Msg {
	return out(question(job, version, 0, 0), question(job, version, 1, 0), question(job, version, 2, 2))
}

// codes are errors of all layers, and numbers that are no error.
var codes = []api.Errno{
	api.ErrArg, api.ErrNil, api.ErrBig, api.ErrDown, api.ErrPath, api.ErrNone, api.ErrThere, api.ErrKind, api.ErrFull, api.ErrEnd, api.ErrFilled, api.ErrCross,
	api.ErrHex, api.ErrSumArg, api.ErrWidth, api.ErrNumber, api.ErrKey, api.ErrValue, api.ErrHash, api.ErrTwin, api.ErrGroup, api.ErrSorted, api.ErrIndex, api.ErrData,
	api.ErrForm, api.ErrSum, api.ErrField, api.ErrTotal, api.ErrFrameField, api.ErrFrameShort, api.ErrFrameMagic, api.ErrFrameKind, api.ErrFrameLength, api.ErrFrameSum, api.ErrFrameBody,
	api.ErrText, api.ErrTwice, api.ErrLacks, api.ErrName, api.ErrSetting, api.ErrNodes, api.ErrParts, api.ErrCopies, api.ErrNode, api.ErrPart, api.ErrRow, api.ErrState,
	api.ErrVersion, api.ErrPolicy, api.ErrCount, api.ErrRepeat, api.ErrBuilt, api.ErrRoom, api.ErrUnbuilt, api.ErrFile,
	api.ErrOther, api.ErrMissing, api.ErrExtra, api.ErrDamage, api.ErrContent, api.ErrForeign, api.ErrSpent, api.ErrNever,
	api.ErrWait, api.ErrOver, api.ErrQuota, api.ErrBlock, api.ErrWhole, api.ErrPointer, api.ErrCurrent, api.ErrStale, api.ErrAbsent, api.ErrPartial, api.ErrEmpty, api.ErrStuck,
	api.ErrCrowd, api.ErrNoLetter, api.ErrCut, api.ErrInbox, api.ErrOff, api.ErrOn, api.ErrLost, api.ErrNoKey, api.ErrBusy, api.ErrIdle, api.ErrJob,
	api.ErrOpen, api.ErrNoAnswer, api.ErrWord, api.ErrWords, api.ErrOp, api.ErrLine, api.ErrLines, api.ErrPrint,
	-1, 4, 99999, 1 << 32, api.Errno(mostInt), api.Errno(leastInt),
}

// Calls, each with what it must answer.

func made(t *testing.T, c api.Cluster) *Audit {
	t.Helper()
	a, e := New(c)
	if a == nil || e != api.OK {
		t.Fatalf("New = %v, %d", a != nil, e)
	}
	return a
}

func sent(t *testing.T, what string, list []api.Msg, e api.Errno, want []api.Msg) {
	t.Helper()
	if !slices.Equal(list, want) || e != api.OK {
		t.Errorf("%s: %+v, %d, want %+v", what, list, e, want)
	}
}

func notSent(t *testing.T, what string, list []api.Msg, e, want api.Errno) {
	t.Helper()
	if len(list) != 0 || e != want {
		t.Errorf("%s: %+v, %d, want the error %d", what, list, e, want)
	}
}

func beginIs(t *testing.T, a *Audit, version int, want []api.Msg) {
	t.Helper()
	list, e := a.Begin(version)
	sent(t, fmt.Sprintf("Begin(%d)", version), list, e, want)
}

func beginFails(t *testing.T, a *Audit, version int, want api.Errno) {
	t.Helper()
	list, e := a.Begin(version)
	notSent(t, fmt.Sprintf("Begin(%d)", version), list, e, want)
}

func takeIs(t *testing.T, a *Audit, m api.Msg, want ...api.Msg) {
	t.Helper()
	list, e := a.Take(m)
	sent(t, fmt.Sprintf("Take(%+v)", m), list, e, want)
}

func tickIs(t *testing.T, a *Audit, want ...api.Msg) {
	t.Helper()
	list, e := a.Tick()
	sent(t, "Tick", list, e, want)
}

// wait lets so many ticks go by in which nothing is sent.
func wait(t *testing.T, a *Audit, ticks int) {
	t.Helper()
	for range ticks {
		tickIs(t, a)
	}
}

// reportIs holds that the audit has ended so.
func reportIs(t *testing.T, a *Audit, job, version, outcome int, differ, missing []int) {
	t.Helper()
	is(t, "Busy", a.Busy(), false)
	toldIs(t, a, job, version, outcome, differ, missing)
}

// toldIs holds what the report says, whether another audit goes on or not.
func toldIs(t *testing.T, a *Audit, job, version, outcome int, differ, missing []int) {
	t.Helper()
	r, e := a.Report()
	is(t, "Report", e, api.OK)
	is(t, "Job", r.Job, job)
	is(t, "Version", r.Version, version)
	is(t, "Outcome", r.Outcome, outcome)
	is(t, "Differ", fmt.Sprint(r.Differ), fmt.Sprint(differ))
	is(t, "Missing", fmt.Sprint(r.Missing), fmt.Sprint(missing))
}

func noReport(t *testing.T, a *Audit, want api.Errno) {
	t.Helper()
	r, e := a.Report()
	is(t, "Report", e, want)
	same(t, "Report", r, api.Audited{})
}

// begun is an auditor of E whose audit of version 7 has begun.
func begun(t *testing.T) *Audit {
	t.Helper()
	a := made(t, east())
	beginIs(t, a, 7, first(1, 7))
	return a
}

// tells lets a node tell of its whole list; say gives what it tells of a partition.
func tells(t *testing.T, a *Audit, job, version, node int, list []int, say func(part int) (int, string)) {
	t.Helper()
	for i, part := range list {
		pairs, sum := say(part)
		var want []api.Msg
		if i+1 < len(list) {
			want = out(question(job, version, node, list[i+1]))
		}
		takeIs(t, a, answer(job, version, node, part, pairs, sum), want...)
	}
}

// alike says the same of all partitions.
func alike(int) (int, string) { return 4, sumS }

// but says something else of these partitions.
func but(pairs int, sum string, parts ...int) func(part int) (int, string) {
	return func(part int) (int, string) {
		if slices.Contains(parts, part) {
			return pairs, sum
		}
		return alike(part)
	}
}

// upto are the numbers from 0 to n - 1.
func upto(n int) []int {
	var list []int
	for i := range n {
		list = append(list, i)
	}
	return list
}

// without are these numbers but for some.
func without(list []int, these ...int) []int {
	return slices.DeleteFunc(slices.Clone(list), func(i int) bool { return slices.Contains(these, i) })
}

// orders are a list's numbers in every order.
func orders(list []int) [][]int {
	if len(list) == 0 {
		return [][]int{nil}
	}
	var all [][]int
	for i, one := range list {
		for _, rest := range orders(slices.Delete(slices.Clone(list), i, i+1)) {
			all = append(all, append([]int{one}, rest...))
		}
	}
	return all
}

// kept is all that an auditor knows.
func kept(a *Audit) string { return fmt.Sprintf("%+v", *a) }

// stays does something, and holds that the auditor is as it was.
func stays(t *testing.T, a *Audit, do func()) {
	t.Helper()
	was := kept(a)
	do()
	is(t, "what it knows", kept(a), was)
}

// story is all that comes of an auditor from here on, if no node answers.
func story(t *testing.T, a *Audit) string {
	t.Helper()
	var text strings.Builder
	tell := func() {
		r, e := a.Report()
		fmt.Fprintln(&text, "busy", a.Busy(), "report", r, e)
	}
	tell()
	for i := 1; a.Busy(); i++ {
		list, e := a.Tick()
		fmt.Fprintln(&text, i, list, e)
		if i > 1<<17 {
			t.Fatal("it does not end")
		}
	}
	tell()
	list, e := a.Begin(9)
	fmt.Fprintln(&text, list, e)
	return text.String()
}

// dice are numbers that are the same in every run.
type dice uint64

func (d *dice) roll(n int) int {
	*d = *d*6364136223846793005 + 1442695040888963407
	return int(uint64(*d)>>33) % n
}

// oneOf draws one of these.
func oneOf[T any](lot *dice, these ...T) T { return these[lot.roll(len(these))] }

// scribble writes over a list, and behind its end as far as its memory goes.
func scribble[T any](list []T, with T) {
	all := list[:cap(list)]
	for i := range all {
		all[i] = with
	}
	_ = append(list, with)
}
