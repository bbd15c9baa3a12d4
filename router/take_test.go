package router

import (
	"slices"
	"testing"

	"granary/api"
)

// P17.4

// second is a router whose get of "abc", the ticket 1, has asked node 0 and then node 1; no strike was made by it.
func second(t *testing.T) *Router {
	t.Helper()
	r := asked(t)
	takeIs(t, r, got(0, 1, "abc", api.ErrEmpty, 0, ""), out(ask(1, 1, "abc")), nil)
	return r
}

// To another address, or of another kind: whatever else is in it, it is refused, and nobody has answered.
func TestTakeOfNoAnswer(t *testing.T) {
	for _, at := range []func(t *testing.T) *Router{asked, second, behind4} {
		r := at(t)
		for _, to := range []int{leastInt, -65, -1, 0, 1, 2, 64, 66, 67, 130, 1<<32 + 65, mostInt} {
			for _, node := range []int{-1, 0, 1, 3, mostInt} {
				m, p := got(node, 1, "abc", api.OK, 7, "v"), pong(node, 1)
				m.To, p.To = to, to
				stays(t, r, func() {
					takeFails(t, r, m, api.ErrArg)
					takeFails(t, r, p, api.ErrArg)
				})
			}
		}
		for _, kind := range []int{leastInt, -12, -1, 0, 1, 3, 4, 5, 6, 7, 8, 9, 10, 11, 13, 14, 15, 16, 17, 1<<32 + 12, mostInt} {
			for _, node := range []int{-1, 0, 1, 3, mostInt} {
				m := got(node, 1, "abc", api.OK, 7, "v")
				m.Kind = kind
				stays(t, r, func() { takeFails(t, r, m, api.ErrArg) })
			}
		}
	}
}

// Of no node: ErrNode, and nothing has changed; the last node is one.
func TestTakeOfNoNode(t *testing.T) {
	for _, n := range []int{1, 2, 3, 15, 16} {
		c := round(n, n, 2, 2, 10)
		r, key := made(t, c), keyIn(t, c, 0)
		getIs(t, r, key, 1, 0)
		for _, node := range []int{leastInt, -n, -1, n, n + 1, 64, api.AddrClient, 66, 1 << 32, mostInt} {
			for _, code := range []api.Errno{api.OK, api.ErrNoKey, api.ErrEmpty} {
				stays(t, r, func() { takeFails(t, r, got(node, 1, key, code, 7, "v"), api.ErrNode) })
			}
			stays(t, r, func() { takeFails(t, r, pong(node, 1), api.ErrNode) })
		}
		for node := range n {
			takeIs(t, r, pong(node, 1), nil, nil)
			takeIs(t, r, got(node, 2, key, api.OK, 7, "v"), nil, nil)
		}
		openIs(t, r, 1)
	}
}

// What is refused takes no silence away, nor a strike.
func TestTakeRefusedIsNoSignOfLife(t *testing.T) {
	c := round(3, 3, 10, 1, 100)
	r, key := hush(t, c, []int{0}), keyIn(t, c, 0)
	m := got(0, 1, key, api.OK, 7, "v")
	m.To = 64
	takeFails(t, r, m, api.ErrArg)
	m = pong(0, 1)
	m.Kind = api.MsgPing
	takeFails(t, r, m, api.ErrArg)
	takeFails(t, r, pong(3, 1), api.ErrNode)
	silentAre(t, r, 0)
	getIs(t, r, key, 2, 1)
}

// A MsgPong does no more than take the silence away: no get ends or goes on by it, whatever stands in it.
func TestPong(t *testing.T) {
	r := second(t)
	for node := range 3 {
		for _, id := range []int{leastInt, -1, 0, 1, 2, mostInt} {
			for _, code := range []api.Errno{api.OK, api.ErrNoKey, api.ErrEmpty} {
				m := got(node, id, "abc", code, 7, "v")
				m.Kind = api.MsgPong
				stays(t, r, func() { takeIs(t, r, m, nil, nil) })
			}
		}
	}
	openIs(t, r, 1)
	takeIs(t, r, got(1, 1, "abc", api.OK, 7, "v"), nil, ends(found(1, "abc", 1, 7, "v")))
}

// Every message that is taken takes its sender's silence away, and just his: a MsgPong, a MsgGot that belongs to none, one that says no, one of an owner asked earlier, a good one.
func TestTakenMessagesAreSignsOfLife(t *testing.T) {
	c := round(3, 3, 10, 1, 100)
	key := keyIn(t, c, 0)
	for _, m := range []api.Msg{
		pong(0, 0), pong(0, 11),
		got(0, 0, key, api.OK, 7, "v"), got(0, 99, key, api.OK, 7, "v"), got(0, 1, "other", api.OK, 7, "v"), got(0, 2, key, api.ErrEmpty, 0, ""),
		got(0, 1, key, api.ErrEmpty, 0, ""), got(0, 1, key, api.OK, 7, "v"), got(0, 1, key, api.ErrNoKey, 7, "v"),
	} {
		r := hush(t, c, []int{0}, []int{2}) // the get of the ticket 1 asked node 0 first, then node 1
		if _, _, e := r.Take(m); e != api.OK {
			t.Errorf("Take(%+v) = %d", m, e)
		}
		silentAre(t, r, 2)
		getIs(t, r, key, 3, 0)
	}
	r := hush(t, c, []int{0}, []int{2})
	takeIs(t, r, pong(1, 0), nil, nil)
	silentAre(t, r, 0, 2)
}

// Strikes in a row are counted anew behind a sign of life.
func TestSignOfLifeBetweenStrikes(t *testing.T) {
	for _, m := range []api.Msg{pong(0, 0), got(0, 1, "abc", api.ErrEmpty, 0, ""), got(0, 77, "zzz", api.OK, 7, "v")} {
		c := round(1, 1, 1, 2, 10)
		r := made(t, c)
		for i := range 5 {
			getIs(t, r, "abc", i+1, 0)
			tickIs(t, r, nil, ends(unanswered(i+1, "abc")))
			takeIs(t, r, m, nil, nil)
			silentAre(t, r)
		}
		getIs(t, r, "abc", 6, 0)
		tickIs(t, r, nil, ends(unanswered(6, "abc")))
		silentAre(t, r)
		getIs(t, r, "abc", 7, 0)
		tickIs(t, r, out(ping(0, 7)), ends(unanswered(7, "abc")))
	}
}

// What an answer says is told as it is: any version, any value; with ErrNoKey no value.
func TestAnswers(t *testing.T) {
	for _, version := range []int{leastInt, -1, 0, 1, 7, 999999, 1000000, mostInt} {
		for _, value := range []string{"", "v", "\x00", "\xff\xfe", string(make([]byte, 5000))} {
			r := asked(t)
			takeIs(t, r, got(0, 1, "abc", api.OK, version, value), nil, ends(found(1, "abc", 0, version, value)))
			openIs(t, r, 0)
			r = asked(t)
			takeIs(t, r, got(0, 1, "abc", api.ErrNoKey, version, value), nil, ends(lacks(1, "abc", 0, version)))
			openIs(t, r, 0)
			r = second(t)
			takeIs(t, r, got(1, 1, "abc", api.OK, version, value), nil, ends(found(1, "abc", 1, version, value)))
			r = second(t)
			takeIs(t, r, got(1, 1, "abc", api.ErrNoKey, version, value), nil, ends(lacks(1, "abc", 1, version)))
		}
	}
}

// A late answer of an owner that was asked earlier counts, if it is a good one.
func TestLateAnswers(t *testing.T) {
	r := second(t)
	takeIs(t, r, got(0, 1, "abc", api.OK, 7, "v"), nil, ends(found(1, "abc", 0, 7, "v")))
	takeIs(t, r, got(1, 1, "abc", api.OK, 8, "w"), nil, nil)
	r = second(t)
	takeIs(t, r, got(0, 1, "abc", api.ErrNoKey, 7, "v"), nil, ends(lacks(1, "abc", 0, 7)))
	openIs(t, r, 0)
	for _, code := range badCodes {
		r = second(t)
		stays(t, r, func() { takeIs(t, r, got(0, 1, "abc", code, 7, "v"), nil, nil) })
		takeIs(t, r, got(1, 1, "abc", api.OK, 8, "w"), nil, ends(found(1, "abc", 1, 8, "w")))
	}
	// The first and the third of five, of which four were asked.
	c := round(5, 5, 2, 2, 10)
	key := keyIn(t, c, 3)
	for _, node := range []int{3, 4, 0, 1} {
		r = made(t, c)
		getIs(t, r, key, 1, 3)
		for _, no := range []int{3, 4, 0} {
			takeIs(t, r, got(no, 1, key, api.ErrEmpty, 0, ""), out(ask((no+1)%5, 1, key)), nil)
		}
		stays(t, r, func() { takeIs(t, r, got(2, 1, key, api.OK, 7, "v"), nil, nil) }) // the one that was not asked yet
		takeIs(t, r, got(node, 1, key, api.OK, 7, "v"), nil, ends(found(1, key, node, 7, "v")))
	}
}

// Any other code of the owner asked last lets the get go on, and end behind the last owner.
func TestRefusals(t *testing.T) {
	for _, code := range badCodes {
		for n := 1; n <= 16; n += 5 {
			c := round(n, n, 2, 2, 10)
			r, key := made(t, c), keyIn(t, c, n-1)
			getIs(t, r, key, 1, n-1)
			row := from(n-1, n, n)
			for i, node := range row {
				no := got(node, 1, key, code, 7, "v")
				openIs(t, r, 1)
				if i+1 < n {
					takeIs(t, r, no, out(ask(row[i+1], 1, key)), nil)
					stays(t, r, func() { takeIs(t, r, no, nil, nil) })
				} else {
					takeIs(t, r, no, nil, ends(unanswered(1, key)))
				}
			}
			openIs(t, r, 0)
			silentAre(t, r)
		}
	}
}

// Who says no has answered: no strike comes of it.
func TestRefusalsAreNoStrikes(t *testing.T) {
	c := round(2, 2, 1, 1, 10)
	r, key := made(t, c), keyIn(t, c, 0)
	for i := range 10 {
		asksInTurn(t, r, key, i+1, 0, 1)
		silentAre(t, r)
	}
}

// A MsgGot that belongs to no open get: another ticket, another key, a node that was not asked yet, one that owns nothing of it, a get that has ended.
func TestAnswersThatBelongToNone(t *testing.T) {
	c := round(4, 2, 2, 2, 10)
	key, other := keyIn(t, c, 1), keyIn(t, c, 3)
	r := made(t, c)
	getIs(t, r, key, 1, 1)
	getIs(t, r, other, 2, 3)
	getIs(t, r, key, 3, 1)
	takeIs(t, r, got(1, 3, key, api.OK, 7, "v"), nil, ends(found(3, key, 1, 7, "v")))
	for _, code := range append([]api.Errno{api.OK, api.ErrNoKey}, badCodes...) {
		stays(t, r, func() {
			for _, ticket := range []int{leastInt, -1, 0, 2, 3, 4, 5, 64, 1<<32 + 1, mostInt} {
				takeIs(t, r, got(1, ticket, key, code, 7, "v"), nil, nil)
			}
			for _, wrong := range []string{"", other, key + "x", key[:1], "\x00" + key, key + "\x00"} {
				takeIs(t, r, got(1, 1, wrong, code, 7, "v"), nil, nil)
			}
			for _, node := range []int{2, 0, 3} { // 2 comes next, the others own nothing of it
				takeIs(t, r, got(node, 1, key, code, 7, "v"), nil, nil)
			}
			takeIs(t, r, got(3, 1, other, code, 7, "v"), nil, nil)
			takeIs(t, r, got(1, 2, other, code, 7, "v"), nil, nil)
		})
	}
	openIs(t, r, 2)
	takeIs(t, r, got(1, 1, key, api.OK, 7, "v"), nil, ends(found(1, key, 1, 7, "v")))
	takeIs(t, r, got(3, 2, other, api.OK, 7, "w"), nil, ends(found(2, other, 3, 7, "w")))
}

// An answer twice: the second one does nothing, whatever the first one did.
func TestAnswersTwice(t *testing.T) {
	for _, code := range append([]api.Errno{api.OK, api.ErrNoKey}, badCodes...) {
		for _, at := range []func(t *testing.T) *Router{asked, second} {
			for node := range 3 {
				r := at(t)
				m := got(node, 1, "abc", code, 7, "v")
				if _, _, e := r.Take(m); e != api.OK {
					t.Errorf("Take = %d", e)
				}
				stays(t, r, func() { takeIs(t, r, m, nil, nil) })
			}
		}
	}
}

// Only the get with the ticket ends or goes on, others of the same key stay.
func TestOnlyTheOneGet(t *testing.T) {
	r := made(t, east())
	fills(t, r, "abc", 0, 1, 5)
	takeIs(t, r, got(0, 3, "abc", api.ErrEmpty, 0, ""), out(ask(1, 3, "abc")), nil)
	takeIs(t, r, got(1, 2, "abc", api.OK, 7, "v"), nil, nil) // that one has not asked node 1
	takeIs(t, r, got(1, 3, "abc", api.OK, 7, "v"), nil, ends(found(3, "abc", 1, 7, "v")))
	takeIs(t, r, got(0, 5, "abc", api.ErrNoKey, 7, ""), nil, ends(lacks(5, "abc", 0, 7)))
	openIs(t, r, 3)
	wait(t, r, 1)
	list, over, e := r.Tick()
	if want := out(ask(1, 1, "abc"), ask(1, 2, "abc"), ask(1, 4, "abc"), ping(0, 2)); !slices.Equal(list, want) || len(over) != 0 || e != api.OK {
		t.Errorf("Tick = %v, %v, %d, want %v", list, over, e, want)
	}
}
