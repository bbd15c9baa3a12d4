package router

import (
	"fmt"
	"maps"
	"slices"
	"strconv"
	"strings"
	"testing"

	"granary/api"
	"granary/ring"
)

const (
	mostInt  = int(^uint(0) >> 1)
	leastInt = -mostInt - 1
)

func is[T comparable](t *testing.T, what string, got, want T) {
	t.Helper()
	if got != want {
		t.Errorf("%s: %v, want %v", what, got, want)
	}
}

// Clusters.

// east is the cluster of the chapter's examples.
func east() api.Cluster {
	return api.Cluster{
		Store: "east", Replicas: 2, Width: 1, Chunks: 2, Retain: 2,
		Block: 64, Rate: 64, Per: 1, Burst: 64, Tries: 3, Base: 1, Most: 8, Quota: 100000,
		Room: 100000, Depot: 100000, Resend: 2, Limit: 3, Patience: 50, GetWait: 2, Strikes: 2, Ban: 10, Home: 1,
		Nodes: []api.NodeDef{{Parts: []int{0, 2}}, {Parts: []int{1}}, {Zone: 1, Parts: []int{3}}},
	}
}

// round is a cluster in which each node has the partition of its number: the owners of p are p, p + 1 and so on, round the ring. Nobody is at home.
func round(nodes, replicas, wait, strikes, ban int) api.Cluster {
	c := east()
	c.Replicas, c.Chunks, c.GetWait, c.Strikes, c.Ban, c.Home = replicas, 1, wait, strikes, ban, 7
	c.Nodes = nil
	for i := range nodes {
		c.Nodes = append(c.Nodes, api.NodeDef{Zone: i % 7, Parts: []int{i}})
	}
	return c
}

// zoned is a cluster whose nodes have these zones.
func zoned(c api.Cluster, home int, zones ...int) api.Cluster {
	c.Home = home
	c.Nodes = slices.Clone(c.Nodes)
	for i, zone := range zones {
		c.Nodes[i].Zone = zone
	}
	return c
}

// keyIn is a key of a partition.
func keyIn(t *testing.T, c api.Cluster, part int) string {
	t.Helper()
	for i := range 100000 {
		key := "k" + strconv.Itoa(i)
		place, e := ring.Locate(c, key)
		if e != api.OK {
			t.Fatalf("Locate: %d", e)
		}
		if place.Part == part {
			return key
		}
	}
	t.Fatalf("no key of the partition %d", part)
	return ""
}

func upto(n int) []int {
	var list []int
	for i := range n {
		list = append(list, i)
	}
	return list
}

// from are so many nodes out of n, from one on, round the ring.
func from(first, count, n int) []int {
	var list []int
	for i := range count {
		list = append(list, (first+i)%n)
	}
	return list
}

// Messages and outcomes, field by field.

func ask(to, ticket int, key string) api.Msg {
	return api.Msg{Kind: 11, From: 65, To: to, Id: ticket, Key: key}
}

func ping(to, time int) api.Msg { return api.Msg{Kind: 1, From: 65, To: to, Id: time} }

func got(node, ticket int, key string, code api.Errno, version int, value string) api.Msg {
	return api.Msg{Kind: 12, From: node, To: 65, Id: ticket, Version: version, Code: code, Key: key, Value: value}
}

func pong(node, id int) api.Msg { return api.Msg{Kind: 2, From: node, To: 65, Id: id} }

func found(ticket int, key string, node, version int, value string) api.Outcome {
	return api.Outcome{Ticket: ticket, Key: key, Code: 0, Node: node, Version: version, Value: value}
}

func lacks(ticket int, key string, node, version int) api.Outcome {
	return api.Outcome{Ticket: ticket, Key: key, Code: 144, Node: node, Version: version}
}

func unanswered(ticket int, key string) api.Outcome {
	return api.Outcome{Ticket: ticket, Key: key, Code: 171, Node: -1}
}

func out(list ...api.Msg) []api.Msg { return list }

func ends(list ...api.Outcome) []api.Outcome { return list }

// badCodes are codes of all layers but OK and ErrNoKey, and numbers that are no code.
var badCodes = []api.Errno{1, 2, 3, api.ErrDown, api.ErrKey, api.ErrNode, api.ErrForeign, api.ErrEmpty, api.ErrStuck, api.ErrLost, 143, 145, api.ErrOpen, api.ErrNoAnswer, -1, -144, 99999, api.Errno(mostInt), api.Errno(leastInt)}

// Calls, each with what it must answer.

func made(t *testing.T, c api.Cluster) *Router {
	t.Helper()
	r, e := New(c)
	if r == nil || e != api.OK {
		t.Fatalf("New = %v, %d", r != nil, e)
	}
	return r
}

func short(key string) string {
	if len(key) > 20 {
		return fmt.Sprintf("%q.. of %d bytes", key[:20], len(key))
	}
	return strconv.Quote(key)
}

func getIs(t *testing.T, r *Router, key string, ticket, to int) {
	t.Helper()
	n, list, e := r.Get(key)
	if n != ticket || !slices.Equal(list, out(ask(to, ticket, key))) || e != api.OK {
		t.Errorf("Get(%s) = %d, %+v, %d, want the ticket %d and node %d", short(key), n, list, e, ticket, to)
	}
}

func getFails(t *testing.T, r *Router, key string, want api.Errno) {
	t.Helper()
	if n, list, e := r.Get(key); n != 0 || len(list) != 0 || e != want {
		t.Errorf("Get(%s) = %d, %+v, %d, want the error %d", short(key), n, list, e, want)
	}
}

func getAllIs(t *testing.T, r *Router, keys []string, ticket int, want ...api.Msg) {
	t.Helper()
	n, list, e := r.GetAll(keys...)
	if n != ticket || !slices.Equal(list, want) || e != api.OK {
		t.Errorf("GetAll(%.60q) = %d, %+v, %d, want %d, %+v", keys, n, list, e, ticket, want)
	}
}

func getAllFails(t *testing.T, r *Router, keys []string, want api.Errno) {
	t.Helper()
	if n, list, e := r.GetAll(keys...); n != 0 || len(list) != 0 || e != want {
		t.Errorf("GetAll of %d keys = %d, %+v, %d, want the error %d", len(keys), n, list, e, want)
	}
}

func takeIs(t *testing.T, r *Router, m api.Msg, sent []api.Msg, done []api.Outcome) {
	t.Helper()
	list, over, e := r.Take(m)
	if !slices.Equal(list, sent) || !slices.Equal(over, done) || e != api.OK {
		t.Errorf("Take(%+v) = %+v, %+v, %d, want %+v, %+v", m, list, over, e, sent, done)
	}
}

func takeFails(t *testing.T, r *Router, m api.Msg, want api.Errno) {
	t.Helper()
	if list, over, e := r.Take(m); len(list) != 0 || len(over) != 0 || e != want {
		t.Errorf("Take(%+v) = %+v, %+v, %d, want the error %d", m, list, over, e, want)
	}
}

func tickIs(t *testing.T, r *Router, sent []api.Msg, done []api.Outcome) {
	t.Helper()
	list, over, e := r.Tick()
	if !slices.Equal(list, sent) || !slices.Equal(over, done) || e != api.OK {
		t.Errorf("Tick at %d = %+v, %+v, %d, want %+v, %+v", r.now, list, over, e, sent, done)
	}
}

// wait lets so many ticks go by in which nothing comes about.
func wait(t *testing.T, r *Router, ticks int) {
	t.Helper()
	for range ticks {
		tickIs(t, r, nil, nil)
	}
}

func openIs(t *testing.T, r *Router, want int) {
	t.Helper()
	is(t, "Open", r.Open(), want)
}

// asksInTurn holds that a get asks just these owners, in this order: each says that it cannot.
func asksInTurn(t *testing.T, r *Router, key string, ticket int, owners ...int) {
	t.Helper()
	getIs(t, r, key, ticket, owners[0])
	for i, node := range owners {
		no := got(node, ticket, key, api.ErrEmpty, 0, "")
		if i+1 < len(owners) {
			takeIs(t, r, no, out(ask(owners[i+1], ticket, key)), nil)
		} else {
			takeIs(t, r, no, nil, ends(unanswered(ticket, key)))
		}
	}
}

// fills opens so many gets of a key, whose first owner is a node.
func fills(t *testing.T, r *Router, key string, node, first, count int) {
	t.Helper()
	for i := range count {
		getIs(t, r, key, first+i, node)
	}
}

// What a router has.

// kept is all that a router knows.
func kept(r *Router) string {
	var text strings.Builder
	fmt.Fprintln(&text, r.cluster, *r.watch, r.now, r.last)
	for _, ticket := range slices.Sorted(maps.Keys(r.gets)) {
		fmt.Fprintln(&text, ticket, *r.gets[ticket])
	}
	return text.String()
}

// stays does something, and holds that the router is as it was.
func stays(t *testing.T, r *Router, do func()) {
	t.Helper()
	was := kept(r)
	do()
	is(t, "what it knows", kept(r), was)
}

// silentAre holds that just these nodes are thought silent.
func silentAre(t *testing.T, r *Router, want ...int) {
	t.Helper()
	var list []int
	for node := range r.cluster.Nodes {
		if silent, _ := r.watch.Silent(node); silent {
			list = append(list, node)
		}
	}
	if !slices.Equal(list, want) {
		t.Errorf("silent are %v, want %v", list, want)
	}
}

// dice are numbers that are the same in every run.
type dice uint64

func (d *dice) roll(n int) int {
	*d = *d*6364136223846793005 + 1442695040888963407
	return int(uint64(*d)>>33) % n
}

// oneOf draws one of these.
func oneOf[T any](lot *dice, these ...T) T { return these[lot.roll(len(these))] }

// scribble writes over a list, and behind its end as far as its memory goes.
func scribble[T any](list []T, with T) {
	all := list[:cap(list)]
	for i := range all {
		all[i] = with
	}
	_ = append(list, with)
}
