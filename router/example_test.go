package router

import (
	"strings"
	"testing"

	"granary/api"
)

// The chapter's ten examples, and that of README.md.

// asked is a router of the examples behind the first of them.
func asked(t *testing.T) *Router {
	t.Helper()
	r := made(t, east())
	getIs(t, r, "abc", 1, 0)
	return r
}

func TestExample1(t *testing.T) {
	r := made(t, east())
	getFails(t, r, "", api.ErrKey)
	getFails(t, r, strings.Repeat("k", 256), api.ErrKey)
	n, list, e := r.Get("abc")
	if n != 1 || e != api.OK || len(list) != 1 || list[0] != (api.Msg{Kind: api.MsgGet, From: 65, To: 0, Id: 1, Key: "abc"}) {
		t.Errorf("Get = %d, %+v, %d", n, list, e)
	}
	openIs(t, r, 1)
}

func TestExample2(t *testing.T) {
	r := asked(t)
	m := api.Msg{Kind: api.MsgGot, From: 0, To: 65, Id: 1, Version: 7, Code: api.OK, Key: "abc", Value: "v"}
	takeIs(t, r, m, nil, ends(api.Outcome{Ticket: 1, Key: "abc", Code: api.OK, Node: 0, Version: 7, Value: "v"}))
	openIs(t, r, 0)
	takeIs(t, r, m, nil, nil)
}

func TestExample3(t *testing.T) {
	r := asked(t)
	takeIs(t, r, got(0, 1, "abc", api.ErrNoKey, 7, ""), nil, ends(api.Outcome{Ticket: 1, Key: "abc", Code: api.ErrNoKey, Node: 0, Version: 7, Value: ""}))
	r = asked(t)
	takeIs(t, r, got(0, 1, "abc", api.ErrEmpty, 7, ""), out(ask(1, 1, "abc")), nil)
	takeIs(t, r, got(0, 1, "abc", api.ErrEmpty, 7, ""), nil, nil)
	takeIs(t, r, got(1, 1, "abc", api.ErrEmpty, 7, ""), nil, ends(api.Outcome{Ticket: 1, Key: "abc", Code: api.ErrNoAnswer, Node: -1, Version: 0, Value: ""}))
}

func TestExample4(t *testing.T) {
	r := asked(t)
	tickIs(t, r, nil, nil)
	tickIs(t, r, out(ask(1, 1, "abc")), nil)
	takeIs(t, r, got(0, 1, "abc", api.OK, 7, "v"), nil, ends(found(1, "abc", 0, 7, "v")))
	openIs(t, r, 0)
	behind4(t)
}

// behind4 is the router behind the fourth example, in which no answer came.
func behind4(t *testing.T) *Router {
	t.Helper()
	r := asked(t)
	tickIs(t, r, nil, nil)
	tickIs(t, r, out(ask(1, 1, "abc")), nil)
	tickIs(t, r, nil, nil)
	tickIs(t, r, nil, ends(unanswered(1, "abc")))
	openIs(t, r, 0)
	return r
}

func TestExamples5And6(t *testing.T) {
	r := behind4(t)
	getIs(t, r, "abc", 2, 0)
	tickIs(t, r, nil, nil)
	tickIs(t, r, out(ask(1, 2, "abc"), api.Msg{Kind: api.MsgPing, From: 65, To: 0, Id: 6}), nil)
	getIs(t, r, "abc", 3, 1)
	tickIs(t, r, nil, nil)
	tickIs(t, r, out(ask(0, 3, "abc"), ping(0, 8), ping(1, 8)), ends(unanswered(2, "abc")))
	takeIs(t, r, api.Msg{Kind: api.MsgPong, From: 0, To: 65, Id: 6}, nil, nil)
	getIs(t, r, "abc", 4, 0)
}

func TestExample7(t *testing.T) {
	r := asked(t)
	takeIs(t, r, got(2, 1, "abc", api.OK, 7, "v"), nil, nil)
	takeIs(t, r, got(0, 9, "abc", api.OK, 7, "v"), nil, nil)
	takeIs(t, r, got(0, 1, "abd", api.OK, 7, "v"), nil, nil)
	m := got(0, 1, "abc", api.OK, 7, "v")
	m.To = 64
	takeFails(t, r, m, api.ErrArg)
	m = got(0, 1, "abc", api.OK, 7, "v")
	m.Kind = api.MsgTold
	takeFails(t, r, m, api.ErrArg)
	takeFails(t, r, got(3, 1, "abc", api.OK, 7, "v"), api.ErrNode)
	takeFails(t, r, got(65, 1, "abc", api.OK, 7, "v"), api.ErrNode)
	openIs(t, r, 1)
}

func TestExample8(t *testing.T) {
	r := made(t, east())
	getAllIs(t, r, []string{"abc", "abc"}, 1, ask(0, 1, "abc"), ask(0, 2, "abc"))
	openIs(t, r, 2)
	getAllIs(t, r, nil, 0)
	getAllFails(t, r, []string{"abc", ""}, api.ErrKey)
	openIs(t, r, 2)
	fills(t, r, "abc", 0, 3, 61)
	openIs(t, r, 63)
	getAllFails(t, r, []string{"a", "b"}, api.ErrOpen)
	if n, _, e := r.Get("a"); n != 64 || e != api.OK {
		t.Errorf("Get = %d, %d", n, e)
	}
	getFails(t, r, "b", api.ErrOpen)
	getFails(t, r, "", api.ErrKey)
}

func TestExample9(t *testing.T) {
	c := east()
	key := keyIn(t, c, 2)
	asksInTurn(t, made(t, c), key, 1, 2, 0)
	for _, home := range []int{0, 5} {
		c.Home = home
		asksInTurn(t, made(t, c), key, 1, 0, 2)
	}
}

func TestExample10(t *testing.T) {
	c := east()
	c.Replicas = 4
	if r, e := New(c); r != nil || e != api.ErrCopies {
		t.Errorf("New = %v, %d", r != nil, e)
	}
	var none *Router
	getFails(t, none, "", api.ErrNil)
	openIs(t, none, 0)
}

func TestReadme(t *testing.T) {
	r := made(t, east())
	getIs(t, r, "abc", 1, 0)
	takeIs(t, r, got(0, 1, "abc", api.ErrEmpty, 0, ""), out(ask(1, 1, "abc")), nil)
	takeIs(t, r, got(1, 1, "abc", api.OK, 7, "v"), nil, ends(found(1, "abc", 1, 7, "v")))
	getAllIs(t, r, []string{"abc", "plum"}, 2, ask(0, 2, "abc"), ask(2, 3, "plum"))
	tickIs(t, r, nil, nil)
	takeIs(t, r, got(2, 3, "plum", api.ErrNoKey, 7, ""), nil, ends(lacks(3, "plum", 2, 7)))
	tickIs(t, r, out(ask(1, 2, "abc")), nil)
	tickIs(t, r, nil, nil)
	tickIs(t, r, nil, ends(unanswered(2, "abc")))
	openIs(t, r, 0)
	getIs(t, r, "abc", 4, 0)
	tickIs(t, r, nil, nil)
	tickIs(t, r, out(ask(1, 4, "abc"), ping(0, 6)), nil)
	getIs(t, r, "abc", 5, 1)
	takeIs(t, r, pong(0, 6), nil, nil)
	getIs(t, r, "abc", 6, 0)
}
