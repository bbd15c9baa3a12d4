package export

import (
	"fmt"
	"reflect"
	"slices"
	"strings"
	"testing"

	"granary/api"
)

const (
	mostInt  = int(^uint(0) >> 1)
	leastInt = -mostInt - 1
)

func is[T comparable](t *testing.T, what string, got, want T) {
	t.Helper()
	if got != want {
		t.Errorf("%s: %v, want %v", what, got, want)
	}
}

func same(t *testing.T, what string, got, want any) {
	t.Helper()
	if !reflect.DeepEqual(got, want) {
		t.Errorf("%s: %+v, want %+v", what, got, want)
	}
}

// Clusters.

// cluster has nodes with these partitions. Nobody is at home, so the owners stand in the ring's order.
func cluster(replicas, getWait int, parts ...[]int) api.Cluster {
	c := api.Cluster{
		Store: "east", Replicas: replicas, Width: 1, Chunks: 2, Retain: 2,
		Block: 64, Rate: 64, Per: 1, Burst: 64, Tries: 3, Base: 1, Most: 8, Quota: 100000,
		Room: 100000, Depot: 100000, Resend: 2, Limit: 3, Patience: 50, GetWait: getWait, Strikes: 2, Ban: 10, Home: 7,
	}
	for _, list := range parts {
		c.Nodes = append(c.Nodes, api.NodeDef{Parts: list})
	}
	return c
}

// zoned is a cluster with another home, and its nodes in these zones.
func zoned(c api.Cluster, home int, zones ...int) api.Cluster {
	c.Home = home
	for i, zone := range zones {
		c.Nodes[i].Zone = zone
	}
	return c
}

// east is the cluster E of chapter 6 with home 1 and getwait 2: the owners' rows are those of eastRows.
func east() api.Cluster { return zoned(cluster(2, 2, []int{0, 2}, []int{1}, []int{3}), 1, 0, 0, 1) }

func eastRows() [][]int { return [][]int{{0, 1}, {1, 0}, {2, 0}, {2, 0}} }

// pace is E with another GetWait.
func pace(getWait int) api.Cluster {
	c := east()
	c.GetWait = getWait
	return c
}

// round is a cluster in which each node has the partition of its number: the owners of p are p, p + 1 and so on, round the ring.
func round(nodes, replicas, getWait int) api.Cluster {
	var parts [][]int
	for i := range nodes {
		parts = append(parts, []int{i})
	}
	return cluster(replicas, getWait, parts...)
}

// from are so many nodes of n, round the ring.
func from(first, count, n int) []int {
	var nodes []int
	for i := range count {
		nodes = append(nodes, (first+i)%n)
	}
	return nodes
}

// Messages, field by field.

// run is an export by its number, and its version: who makes messages of it.
type run struct{ job, version int }

var one = run{1, 7} // the first export, that of version 7

// ask is the question to a node for the pair number k of a partition.
func (r run) ask(node, part, k int) api.Msg {
	return api.Msg{Kind: 15, From: 67, To: node, Id: r.job, Seq: part, Version: r.version, Prev: k}
}

// give is the answer with a pair, end that there are no more, no the one with another error.
func (r run) give(node, part, k int, p api.Pair) api.Msg {
	m := r.no(node, part, k, api.OK)
	m.Key, m.Value = p.Key, p.Value
	return m
}

func (r run) end(node, part, k int) api.Msg { return r.no(node, part, k, 16) }

func (r run) no(node, part, k int, code api.Errno) api.Msg {
	return api.Msg{Kind: 16, From: node, To: 67, Id: r.job, Seq: part, Version: r.version, Prev: k, Code: code}
}

// abc is the examples' pair.
var abc = api.Pair{Key: "abc", Value: "v"}

// at is the pair number k of a partition's row, crop its first n.
func at(part, k int) api.Pair {
	return api.Pair{Key: fmt.Sprint("key ", part, " ", k), Value: fmt.Sprint("value ", k, " of ", part)}
}

func crop(part, n int) []api.Pair {
	var list []api.Pair
	for k := range n {
		list = append(list, at(part, k))
	}
	return list
}

// codes are errors of all layers but ErrEnd, and numbers that are no error.
var codes = []api.Errno{
	api.ErrArg, api.ErrNil, api.ErrBig, api.ErrDown, api.ErrPath, api.ErrNone, api.ErrThere, api.ErrKind, api.ErrFull, api.ErrFilled, api.ErrCross,
	api.ErrHex, api.ErrSumArg, api.ErrWidth, api.ErrNumber, api.ErrKey, api.ErrValue, api.ErrHash, api.ErrTwin, api.ErrGroup, api.ErrSorted, api.ErrIndex, api.ErrData,
	api.ErrForm, api.ErrSum, api.ErrField, api.ErrTotal, api.ErrFrameField, api.ErrFrameShort, api.ErrFrameMagic, api.ErrFrameKind, api.ErrFrameLength, api.ErrFrameSum, api.ErrFrameBody,
	api.ErrText, api.ErrTwice, api.ErrLacks, api.ErrName, api.ErrSetting, api.ErrNodes, api.ErrParts, api.ErrCopies, api.ErrNode, api.ErrPart, api.ErrRow, api.ErrState,
	api.ErrVersion, api.ErrPolicy, api.ErrCount, api.ErrRepeat, api.ErrBuilt, api.ErrRoom, api.ErrUnbuilt, api.ErrFile,
	api.ErrOther, api.ErrMissing, api.ErrExtra, api.ErrDamage, api.ErrContent, api.ErrForeign, api.ErrSpent, api.ErrNever,
	api.ErrWait, api.ErrOver, api.ErrQuota, api.ErrBlock, api.ErrWhole, api.ErrPointer, api.ErrCurrent, api.ErrStale, api.ErrAbsent, api.ErrPartial, api.ErrEmpty, api.ErrStuck,
	api.ErrCrowd, api.ErrNoLetter, api.ErrCut, api.ErrInbox, api.ErrOff, api.ErrOn, api.ErrLost, api.ErrNoKey, api.ErrBusy, api.ErrIdle, api.ErrJob,
	api.ErrOpen, api.ErrNoAnswer, api.ErrWord, api.ErrWords, api.ErrOp, api.ErrLine, api.ErrLines, api.ErrPrint,
	-1, -16, 4, 99999, 1 << 32, 1<<32 + 16, api.Errno(mostInt), api.Errno(leastInt),
}

// Calls, each with what it must answer.

func made(t *testing.T, c api.Cluster) *Export {
	t.Helper()
	x, e := New(c)
	if x == nil || e != api.OK {
		t.Fatalf("New = %v, %d", x != nil, e)
	}
	return x
}

func sent(t *testing.T, what string, list []api.Msg, e api.Errno, want []api.Msg) {
	t.Helper()
	if !slices.Equal(list, want) || e != api.OK {
		t.Errorf("%s: %+v, %d, want %+v", what, list, e, want)
	}
}

func notSent(t *testing.T, what string, list []api.Msg, e, want api.Errno) {
	t.Helper()
	if len(list) != 0 || e != want {
		t.Errorf("%s: %+v, %d, want the error %d", what, list, e, want)
	}
}

// begins lets an export begin: it asks the first owner of the partition 0.
func begins(t *testing.T, x *Export, r run, node int) {
	t.Helper()
	list, e := x.Begin(r.version)
	sent(t, fmt.Sprintf("Begin(%d)", r.version), list, e, []api.Msg{r.ask(node, 0, 0)})
	is(t, "Busy", x.Busy(), true)
}

func beginFails(t *testing.T, x *Export, version int, want api.Errno) {
	t.Helper()
	list, e := x.Begin(version)
	notSent(t, fmt.Sprintf("Begin(%d)", version), list, e, want)
}

func takeIs(t *testing.T, x *Export, m api.Msg, want ...api.Msg) {
	t.Helper()
	list, e := x.Take(m)
	sent(t, fmt.Sprintf("Take(%+v)", m), list, e, want)
}

func tickIs(t *testing.T, x *Export, want ...api.Msg) {
	t.Helper()
	list, e := x.Tick()
	sent(t, "Tick", list, e, want)
}

// wait lets so many ticks go by in which nothing is sent.
func wait(t *testing.T, x *Export, ticks int) {
	t.Helper()
	for range ticks {
		tickIs(t, x)
	}
}

// fuse burns down where something goes on and on.
type fuse int

func (f *fuse) burn(t *testing.T) {
	t.Helper()
	if *f++; *f > 1<<17 {
		t.Fatal("it does not end")
	}
}

// idles lets ticks go by till the export has ended.
func idles(t *testing.T, x *Export) {
	t.Helper()
	for f := fuse(0); x.Busy(); f.burn(t) {
		x.Tick()
	}
}

// reads lets a node give the pairs number k to n - 1 of a partition.
func reads(t *testing.T, x *Export, r run, node, part, k, n int) {
	t.Helper()
	for ; k < n; k++ {
		takeIs(t, x, r.give(node, part, k, at(part, k)), r.ask(node, part, k+1))
	}
}

// whole lets a node give n pairs of a partition, which are all; behind that goes out what is asked next.
func whole(t *testing.T, x *Export, r run, node, part, n int, want ...api.Msg) {
	t.Helper()
	reads(t, x, r, node, part, 0, n)
	takeIs(t, x, r.end(node, part, n), want...)
}

// reportIs holds that the export has ended so.
func reportIs(t *testing.T, x *Export, r run, pairs []api.Pair, missing ...int) {
	t.Helper()
	is(t, "Busy", x.Busy(), false)
	toldIs(t, x, r, pairs, missing...)
}

// toldIs holds what the report says, whether another export goes on or not.
func toldIs(t *testing.T, x *Export, r run, pairs []api.Pair, missing ...int) {
	t.Helper()
	got, e := x.Report()
	is(t, "Report", e, api.OK)
	is(t, "Job", got.Job, r.job)
	is(t, "Version", got.Version, r.version)
	if !slices.Equal(got.Pairs, pairs) {
		t.Errorf("Pairs: %q, want %q", got.Pairs, pairs)
	}
	if !slices.Equal(got.Missing, missing) {
		t.Errorf("Missing: %v, want %v", got.Missing, missing)
	}
}

func noReport(t *testing.T, x *Export, want api.Errno) {
	t.Helper()
	r, e := x.Report()
	is(t, "Report", e, want)
	same(t, "Report", r, api.Exported{})
}

// begun is an exporter of E whose export of version 7 has begun.
func begun(t *testing.T) *Export {
	t.Helper()
	x := made(t, east())
	begins(t, x, one, 0)
	return x
}

// upto are the numbers from 0 to n - 1.
func upto(n int) []int {
	var list []int
	for i := range n {
		list = append(list, i)
	}
	return list
}

// kept is all that an exporter knows.
func kept(x *Export) string { return fmt.Sprintf("%+v", *x) }

// stays does something, and holds that the exporter is as it was.
func stays(t *testing.T, x *Export, do func()) {
	t.Helper()
	was := kept(x)
	do()
	is(t, "what it knows", kept(x), was)
}

// story is all that comes of an exporter from here on, if no node answers.
func story(t *testing.T, x *Export) string {
	t.Helper()
	var text strings.Builder
	tell := func() {
		r, e := x.Report()
		fmt.Fprintln(&text, "busy", x.Busy(), "report", r, e)
	}
	tell()
	for f := fuse(1); x.Busy(); f.burn(t) {
		list, e := x.Tick()
		fmt.Fprintln(&text, f, list, e)
	}
	tell()
	list, e := x.Begin(9)
	fmt.Fprintln(&text, list, e)
	return text.String()
}

// dice are numbers that are the same in every run.
type dice uint64

func (d *dice) roll(n int) int {
	*d = *d*6364136223846793005 + 1442695040888963407
	return int(uint64(*d)>>33) % n
}

// oneOf draws one of these.
func oneOf[T any](lot *dice, these ...T) T { return these[lot.roll(len(these))] }

// scribble writes over a list, and behind its end as far as its memory goes.
func scribble[T any](list []T, with T) {
	all := list[:cap(list)]
	for i := range all {
		all[i] = with
	}
	_ = append(list, with)
}
