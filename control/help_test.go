package control

import (
	"fmt"
	"reflect"
	"slices"
	"strings"
	"testing"

	"granary/api"
)

const (
	mostInt  = int(^uint(0) >> 1)
	leastInt = -mostInt - 1
	most     = 9007199254740992 // MaxNumber
	last     = 999999           // MaxVersion
)

func is[T comparable](t *testing.T, what string, got, want T) {
	t.Helper()
	if got != want {
		t.Errorf("%s: %v, want %v", what, got, want)
	}
}

func same(t *testing.T, what string, got, want any) {
	t.Helper()
	if !reflect.DeepEqual(got, want) {
		t.Errorf("%s: %+v, want %+v", what, got, want)
	}
}

// Clusters.

func settings(resend, limit, patience int, nodes ...api.NodeDef) api.Cluster {
	return api.Cluster{
		Store: "east", Replicas: 1, Width: 1, Chunks: 2, Retain: 2,
		Block: 64, Rate: 64, Per: 1, Burst: 64, Tries: 3, Base: 1, Most: 8, Quota: 100000,
		Room: 100000, Depot: 100000, Resend: resend, Limit: limit, Patience: patience, GetWait: 2, Strikes: 2, Ban: 10, Home: 0,
		Nodes: nodes,
	}
}

// east is the cluster E of chapter 6.
func east() api.Cluster {
	c := settings(2, 3, 50, api.NodeDef{Parts: []int{0, 2}}, api.NodeDef{Parts: []int{1}}, api.NodeDef{Zone: 1, Parts: []int{3}})
	c.Replicas = 2
	return c
}

// many is a cluster of n nodes.
func many(n, resend, limit, patience int) api.Cluster {
	var nodes []api.NodeDef
	for i := range n {
		nodes = append(nodes, api.NodeDef{Zone: i % 8, Parts: []int{i}})
	}
	return settings(resend, limit, patience, nodes...)
}

// Messages.

const (
	fetch = "fetch"
	swap  = "swap"
	back  = "back"
	look  = "look"
)

// upto are the nodes 0 to n - 1.
func upto(n int) []int {
	var list []int
	for i := range n {
		list = append(list, i)
	}
	return list
}

// without are the nodes 0 to n - 1, but for these.
func without(n int, these ...int) []int {
	return slices.DeleteFunc(upto(n), func(i int) bool { return slices.Contains(these, i) })
}

// messages are what a phase sends to these nodes, field by field.
func messages(phase string, job, version int, nodes ...int) []api.Msg {
	var list []api.Msg
	for _, n := range nodes {
		list = append(list, map[string]api.Msg{
			fetch: {Kind: 3, From: 64, To: n, Id: job, Epoch: job, Version: version},
			swap:  {Kind: 5, From: 64, To: n, Id: job, Epoch: job, Seq: 1, Version: version},
			back:  {Kind: 7, From: 64, To: n, Id: job, Epoch: job, Seq: 2},
			look:  {Kind: 9, From: 64, To: n, Id: job},
		}[phase])
	}
	return list
}

// reply is a node's in a phase.
func reply(phase string, node, job, version int, code api.Errno) api.Msg {
	return map[string]api.Msg{
		fetch: {Kind: 4, From: node, To: 64, Id: job, Epoch: job, Version: version, Code: code},
		swap:  {Kind: 6, From: node, To: 64, Id: job, Epoch: job, Seq: 1, Version: version, Prev: 3, Code: code},
		back:  {Kind: 8, From: node, To: 64, Id: job, Epoch: job, Seq: 2, Version: version, Prev: version, Code: code},
		look:  {Kind: 10, From: node, To: 64, Id: job, Epoch: 77, Seq: 2, Version: version, Prev: 3, Code: code},
	}[phase]
}

// Calls, each with what it must answer.

func sent(t *testing.T, what string, list []api.Msg, e api.Errno, want []api.Msg) {
	t.Helper()
	if !slices.Equal(list, want) || e != api.OK {
		t.Errorf("%s: %+v, %d, want %+v", what, list, e, want)
	}
}

func notSent(t *testing.T, what string, list []api.Msg, e, want api.Errno) {
	t.Helper()
	if len(list) != 0 || e != want {
		t.Errorf("%s: %+v, %d, want the error %d", what, list, e, want)
	}
}

func beginIs(t *testing.T, c *Control, kind, version int, want []api.Msg) {
	t.Helper()
	list, e := c.Begin(kind, version)
	sent(t, fmt.Sprintf("Begin(%d, %d)", kind, version), list, e, want)
}

func beginFails(t *testing.T, c *Control, kind, version int, want api.Errno) {
	t.Helper()
	list, e := c.Begin(kind, version)
	notSent(t, fmt.Sprintf("Begin(%d, %d)", kind, version), list, e, want)
}

func takeIs(t *testing.T, c *Control, m api.Msg, want []api.Msg) {
	t.Helper()
	list, e := c.Take(m)
	sent(t, fmt.Sprintf("Take(%+v)", m), list, e, want)
}

func tickIs(t *testing.T, c *Control, want []api.Msg) {
	t.Helper()
	list, e := c.Tick()
	sent(t, "Tick", list, e, want)
}

func stopIs(t *testing.T, c *Control, want []api.Msg) {
	t.Helper()
	list, e := c.Stop()
	sent(t, "Stop", list, e, want)
}

func reviveIs(t *testing.T, c *Control, want []api.Msg) {
	t.Helper()
	list, e := c.Revive()
	sent(t, "Revive", list, e, want)
}

// reportIs holds that the job has ended so.
func reportIs(t *testing.T, c *Control, job, kind, version, outcome int, holds []int, missing ...int) {
	t.Helper()
	is(t, "Busy", c.Busy(), false)
	toldIs(t, c, job, kind, version, outcome, holds, missing...)
}

// toldIs holds what the report says, whether another job is going on or not.
func toldIs(t *testing.T, c *Control, job, kind, version, outcome int, holds []int, missing ...int) {
	t.Helper()
	r, e := c.Report()
	is(t, "Report", e, api.OK)
	is(t, "Job", r.Job, job)
	is(t, "Kind", r.Kind, kind)
	is(t, "Version", r.Version, version)
	is(t, "Outcome", r.Outcome, outcome)
	is(t, "Holds", fmt.Sprint(r.Holds), fmt.Sprint(holds))
	is(t, "Missing", fmt.Sprint(r.Missing), fmt.Sprint(missing))
}

func noReport(t *testing.T, c *Control, want api.Errno) {
	t.Helper()
	r, e := c.Report()
	is(t, "Report", e, want)
	same(t, "Report", r, api.Report{})
}

// each is a list of n times the same.
func each(n, x int) []int { return slices.Repeat([]int{x}, n) }

// Places that a controller may be at.

func made(t *testing.T, c api.Cluster) *Control {
	t.Helper()
	k, e := New(c)
	if k == nil || e != api.OK {
		t.Fatalf("New = %v, %d", k != nil, e)
	}
	return k
}

func resumed(t *testing.T, c api.Cluster, job, kind, version int, open bool) *Control {
	t.Helper()
	k, list, e := Resume(c, job, kind, version, open)
	if k == nil || e != api.OK {
		t.Fatalf("Resume = %v, %d", k != nil, e)
	}
	var want []api.Msg
	if open {
		want = messages(back, job, 0, upto(len(c.Nodes))...)
	}
	sent(t, "Resume", list, e, want)
	return k
}

// answered lets all nodes answer in a phase, and tells what comes of the last one.
func answered(t *testing.T, k *Control, phase string, n, job, version int) []api.Msg {
	t.Helper()
	for i := range n - 1 {
		takeIs(t, k, reply(phase, i, job, version, api.OK), nil)
	}
	list, e := k.Take(reply(phase, n-1, job, version, api.OK))
	is(t, "Take", e, api.OK)
	return list
}

// station is a place that a controller may be at.
type station struct {
	name               string
	phase              string // "": no job is going on
	job, kind, version int    // of the job that is going on
	ended              int    // the number of the job that ended last
	at                 func(t *testing.T, c api.Cluster) *Control
}

func inFetch(t *testing.T, c api.Cluster) *Control {
	t.Helper()
	k := made(t, c)
	beginIs(t, k, 1, 7, messages(fetch, 1, 7, upto(len(c.Nodes))...))
	return k
}

func inSwap(t *testing.T, c api.Cluster) *Control {
	t.Helper()
	k, n := inFetch(t, c), len(c.Nodes)
	sent(t, "the last Fetched", answered(t, k, fetch, n, 1, 7), api.OK, messages(swap, 1, 7, upto(n)...))
	return k
}

func inBack(t *testing.T, c api.Cluster) *Control {
	t.Helper()
	k, n := inSwap(t, c), len(c.Nodes)
	takeIs(t, k, reply(swap, n-1, 1, 3, api.ErrAbsent), messages(back, 1, 0, upto(n)...))
	return k
}

func inLook(t *testing.T, c api.Cluster) *Control {
	t.Helper()
	k := made(t, c)
	beginIs(t, k, 3, 0, messages(look, 1, 0, upto(len(c.Nodes))...))
	return k
}

func inSwapOfBack(t *testing.T, c api.Cluster) *Control {
	t.Helper()
	k := made(t, c)
	beginIs(t, k, 2, 4, messages(swap, 1, 4, upto(len(c.Nodes))...))
	return k
}

func inBackOfBack(t *testing.T, c api.Cluster) *Control {
	t.Helper()
	k := inSwapOfBack(t, c)
	stopIs(t, k, messages(back, 1, 0, upto(len(c.Nodes))...))
	return k
}

func inBackBehindFetch(t *testing.T, c api.Cluster) *Control {
	t.Helper()
	k := inFetch(t, c)
	takeIs(t, k, reply(fetch, 0, 1, 7, api.ErrQuota), messages(back, 1, 0, upto(len(c.Nodes))...))
	return k
}

func inBackResumed(t *testing.T, c api.Cluster) *Control {
	t.Helper()
	return resumed(t, c, 5, 1, 7, true)
}

func hasSucceeded(t *testing.T, c api.Cluster) *Control {
	t.Helper()
	k, n := inSwap(t, c), len(c.Nodes)
	sent(t, "the last Swapped", answered(t, k, swap, n, 1, 7), api.OK, nil)
	reportIs(t, k, 1, 1, 7, api.Succeeded, each(n, 7))
	return k
}

func hasRestored(t *testing.T, c api.Cluster) *Control {
	t.Helper()
	k, n := inBackOfBack(t, c), len(c.Nodes)
	sent(t, "the last Backed", answered(t, k, back, n, 1, 9), api.OK, nil)
	reportIs(t, k, 1, 2, 4, api.Restored, each(n, 9))
	return k
}

func isIncomplete(t *testing.T, c api.Cluster) *Control {
	t.Helper()
	k, n := inLook(t, c), len(c.Nodes)
	stopIs(t, k, nil)
	reportIs(t, k, 1, 3, 0, api.Incomplete, each(n, -1), upto(n)...)
	return k
}

// behind is a place behind a job that has ended: the job there has the number 2.
func behind(kind, version int, phase string) func(t *testing.T, c api.Cluster) *Control {
	return func(t *testing.T, c api.Cluster) *Control {
		t.Helper()
		k := hasRestored(t, c)
		beginIs(t, k, kind, version, messages(phase, 2, version, upto(len(c.Nodes))...))
		return k
	}
}

func stations() []station {
	return []station{
		{"new", "", 0, 0, 0, 0, made},
		{"resumed, nothing open", "", 0, 0, 0, 0, func(t *testing.T, c api.Cluster) *Control { return resumed(t, c, 5, 0, 0, false) }},
		{"fetch", fetch, 1, 1, 7, 0, inFetch},
		{"swap", swap, 1, 1, 7, 0, inSwap},
		{"back", back, 1, 1, 7, 0, inBack},
		{"look", look, 1, 3, 0, 0, inLook},
		{"swap of a JobBack", swap, 1, 2, 4, 0, inSwapOfBack},
		{"back of a JobBack", back, 1, 2, 4, 0, inBackOfBack},
		{"back behind fetch", back, 1, 1, 7, 0, inBackBehindFetch},
		{"back, resumed", back, 5, 1, 7, 0, inBackResumed},
		{"succeeded", "", 0, 0, 0, 1, hasSucceeded},
		{"restored", "", 0, 0, 0, 1, hasRestored},
		{"incomplete", "", 0, 0, 0, 1, isIncomplete},
		{"fetch of the second job", fetch, 2, 1, 7, 1, behind(1, 7, fetch)},
		{"swap of the second job", swap, 2, 2, 7, 1, behind(2, 7, swap)},
		{"look of the second job", look, 2, 3, 0, 1, behind(3, 0, look)},
	}
}

// going are the stations at which a job is going on.
func going() []station {
	return slices.DeleteFunc(stations(), func(s station) bool { return s.phase == "" })
}

func (s station) messages(nodes ...int) []api.Msg {
	return messages(s.phase, s.job, s.version, nodes...)
}

func (s station) backs(n int) []api.Msg { return messages(back, s.job, 0, upto(n)...) }

func (s station) answer(node int, code api.Errno) api.Msg {
	return reply(s.phase, node, s.job, s.version, code)
}

// takesBack tells whether the phase back begins where something fails at the station.
func (s station) takesBack() bool { return s.phase == fetch || s.phase == swap }

// story is all that comes of a controller from here on, if no node answers: two that are at the same place tell the same.
func story(t *testing.T, k *Control) string {
	t.Helper()
	var text strings.Builder
	tell := func() {
		r, e := k.Report()
		fmt.Fprintln(&text, "busy", k.Busy(), "report", r, e)
	}
	tell()
	for i := 1; k.Busy(); i++ {
		list, e := k.Tick()
		fmt.Fprintln(&text, i, list, e)
		if i > 1000 {
			t.Fatalf("it does not end: %s", text.String())
		}
	}
	tell()
	list, e := k.Begin(api.JobLook, 0)
	fmt.Fprintln(&text, list, e)
	return text.String()
}

// unmoved holds that a controller is still where the station is.
func (s station) unmoved(t *testing.T, what string, k *Control, c api.Cluster) {
	t.Helper()
	is(t, s.name+": "+what, story(t, k), story(t, s.at(t, c)))
}

// dice are numbers that are the same in every run.
type dice uint64

func (d *dice) roll(n int) int {
	*d = *d*6364136223846793005 + 1442695040888963407
	return int(uint64(*d)>>33) % n
}

// oneOf draws one of these.
func oneOf[T any](lot *dice, these ...T) T { return these[lot.roll(len(these))] }

// scribble writes over a list, and behind its end as far as its memory goes.
func scribble[T any](list []T, with T) {
	all := list[:cap(list)]
	for i := range all {
		all[i] = with
	}
	_ = append(list, with)
}
