package router

import (
	"slices"
	"strings"
	"testing"

	"granary/api"
	"granary/ring"
)

// P17.2 and P17.6

// firstOwner is whom a get of a key asks first where all nodes are of one zone and none is silent.
func firstOwner(t *testing.T, c api.Cluster, key string) int {
	t.Helper()
	place, e := ring.Locate(c, key)
	is(t, "Locate", e, api.OK)
	owners, e := ring.Owners(c, place.Part)
	is(t, "Owners", e, api.OK)
	return owners[0]
}

func TestKeysLengths(t *testing.T) {
	for _, c := range []api.Cluster{round(5, 2, 2, 2, 10), round(1, 1, 1, 1, 1)} {
		r, ticket := made(t, c), 0
		for _, n := range []int{0, 1, 2, 254, 255, 256, 257, 511, 512, 65536} {
			for _, b := range []string{"k", "\x00", "\xff"} {
				key := strings.Repeat(b, n)
				if n < 1 || n > 255 {
					stays(t, r, func() { getFails(t, r, key, api.ErrKey) })
					continue
				}
				ticket++
				getIs(t, r, key, ticket, firstOwner(t, c, key))
				openIs(t, r, ticket)
			}
		}
	}
}

// Any bytes are a key, and go out and come back as they are.
func TestKeysOfAnyBytes(t *testing.T) {
	c := round(5, 2, 2, 2, 10)
	r, ticket := made(t, c), 0
	keys := []string{" ", "\n", "=", "\x00\x00", "a\x00", "\xff\xff", "\xed\xa0\x80", "\xc3\x28", "é", "a b", strings.Repeat("\xfe", 255)}
	for b := range 256 {
		keys = append(keys, string([]byte{byte(b)}), string([]byte{byte(b), 'x'}))
	}
	for _, key := range keys {
		ticket++
		to := firstOwner(t, c, key)
		getIs(t, r, key, ticket, to)
		takeIs(t, r, got(to, ticket, key+"x", api.OK, 7, key), nil, nil)
		takeIs(t, r, got(to, ticket, key[1:], api.OK, 7, key), nil, nil)
		takeIs(t, r, got(to, ticket, key, api.OK, 7, key), nil, ends(found(ticket, key, to, 7, key)))
		openIs(t, r, 0)
	}
}

// The tickets rise by one, whatever becomes of the gets, and refused ones use none.
func TestTickets(t *testing.T) {
	r := made(t, east())
	for ticket := 1; ticket <= 300; ticket++ {
		getFails(t, r, "", api.ErrKey)
		getAllFails(t, r, []string{"abc", ""}, api.ErrKey)
		getAllFails(t, r, slices.Repeat([]string{"abc"}, 65), api.ErrOpen)
		getAllIs(t, r, nil, 0)
		getIs(t, r, "abc", ticket, 0)
		switch ticket % 3 {
		case 0:
			takeIs(t, r, got(0, ticket, "abc", api.OK, 7, "v"), nil, ends(found(ticket, "abc", 0, 7, "v")))
		case 1:
			takeIs(t, r, got(0, ticket, "abc", api.ErrNoKey, 7, "v"), nil, ends(lacks(ticket, "abc", 0, 7)))
		case 2:
			takeIs(t, r, got(0, ticket, "abc", api.ErrDown, 0, ""), out(ask(1, ticket, "abc")), nil)
			takeIs(t, r, got(1, ticket, "abc", api.ErrDown, 0, ""), nil, ends(unanswered(ticket, "abc")))
		}
		openIs(t, r, 0)
	}
}

// The tickets of gets that ended in a Tick are not used again either.
func TestTicketsBehindTicks(t *testing.T) {
	c := round(2, 2, 1, 64, 1)
	r, key := made(t, c), keyIn(t, c, 0)
	for i := range 30 {
		getIs(t, r, key, i+1, 0)
		tickIs(t, r, out(ask(1, i+1, key)), nil)
		tickIs(t, r, nil, ends(unanswered(i+1, key)))
		takeIs(t, r, pong(0, 0), nil, nil)
		takeIs(t, r, pong(1, 0), nil, nil)
	}
}

func TestMostOpen(t *testing.T) {
	r := made(t, east())
	for i := range 64 {
		openIs(t, r, i)
		getIs(t, r, "abc", i+1, 0)
	}
	openIs(t, r, 64)
	stays(t, r, func() {
		getFails(t, r, "abc", api.ErrOpen)
		getFails(t, r, "x", api.ErrOpen)
		getFails(t, r, strings.Repeat("k", 255), api.ErrOpen)
		getFails(t, r, "", api.ErrKey)
		getFails(t, r, strings.Repeat("k", 256), api.ErrKey)
	})
	takeIs(t, r, got(0, 65, "abc", api.OK, 7, "v"), nil, nil) // one that was refused
	openIs(t, r, 64)
	for _, ticket := range []int{1, 64, 33} { // the first, the last, and one between
		takeIs(t, r, got(0, ticket, "abc", api.OK, 7, "v"), nil, ends(found(ticket, "abc", 0, 7, "v")))
		openIs(t, r, 63)
		getIs(t, r, "abc", r.last+1, 0)
		openIs(t, r, 64)
		getFails(t, r, "abc", api.ErrOpen)
	}
	is(t, "the last ticket", r.last, 67)
	wait(t, r, 1)
	for range 3 {
		r.Tick()
	}
	openIs(t, r, 0)
	_, list, e := r.GetAll(slices.Repeat([]string{"abc"}, 64)...)
	is(t, "GetAll", e, api.OK)
	is(t, "the first new ticket", list[0].Id, 68)
	is(t, "the last one", list[63].Id, 131)
	openIs(t, r, 64)
}

// Open counts what is open, whatever way a get ends, and going on is not ending.
func TestOpen(t *testing.T) {
	r := made(t, east())
	openIs(t, r, 0)
	getIs(t, r, "abc", 1, 0)
	getIs(t, r, "abc", 2, 0)
	openIs(t, r, 2)
	getAllIs(t, r, []string{"abc", "abc"}, 3, ask(0, 3, "abc"), ask(0, 4, "abc"))
	openIs(t, r, 4)
	takeIs(t, r, got(0, 2, "abc", api.ErrEmpty, 0, ""), out(ask(1, 2, "abc")), nil)
	openIs(t, r, 4)
	takeIs(t, r, got(1, 2, "abc", api.ErrEmpty, 0, ""), nil, ends(unanswered(2, "abc")))
	openIs(t, r, 3)
	takeIs(t, r, got(0, 2, "abc", api.OK, 7, "v"), nil, nil)
	openIs(t, r, 3)
	takeIs(t, r, got(0, 3, "abc", api.OK, 7, "v"), nil, ends(found(3, "abc", 0, 7, "v")))
	openIs(t, r, 2)
	takeIs(t, r, got(0, 1, "abc", api.ErrNoKey, 7, "v"), nil, ends(lacks(1, "abc", 0, 7)))
	openIs(t, r, 1)
	wait(t, r, 1)
	tickIs(t, r, out(ask(1, 4, "abc")), nil)
	openIs(t, r, 1)
	wait(t, r, 1)
	tickIs(t, r, nil, ends(unanswered(4, "abc")))
	openIs(t, r, 0)
	stays(t, r, func() { r.Open() })
}

// homeFirst is the plain reading of the first part of the order.
func homeFirst(c api.Cluster, owners []int) []int {
	row := slices.DeleteFunc(slices.Clone(owners), func(node int) bool { return c.Nodes[node].Zone != c.Home })
	for _, node := range owners {
		if !slices.Contains(row, node) {
			row = append(row, node)
		}
	}
	return row
}

// Owners at home: none, some and all of them, in every pattern of four nodes, for each partition and each number of replicas.
func TestHome(t *testing.T) {
	for pattern := range 16 {
		for replicas := 1; replicas <= 4; replicas++ {
			for _, home := range []int{0, 3, 7} {
				c := round(4, replicas, 2, 2, 10)
				c.Home = home
				for i := range c.Nodes {
					c.Nodes[i].Zone = (home + 1 + i%2) % 8
					if pattern>>i&1 == 1 {
						c.Nodes[i].Zone = home
					}
				}
				r := made(t, c)
				for part := range 4 {
					owners := from(part, replicas, 4)
					asksInTurn(t, r, keyIn(t, c, part), part+1, homeFirst(c, owners)...)
				}
			}
		}
	}
}

func TestHomeOfSixteen(t *testing.T) {
	c := zoned(round(16, 16, 2, 2, 10), 3, 3, 0, 1, 3, 2, 3, 4, 5, 6, 7, 3, 0, 0, 1, 1, 3)
	r := made(t, c)
	asksInTurn(t, r, keyIn(t, c, 0), 1, 0, 3, 5, 10, 15, 1, 2, 4, 6, 7, 8, 9, 11, 12, 13, 14)
	asksInTurn(t, r, keyIn(t, c, 4), 2, 5, 10, 15, 0, 3, 4, 6, 7, 8, 9, 11, 12, 13, 14, 1, 2)
	asksInTurn(t, r, keyIn(t, c, 15), 3, 15, 0, 3, 5, 10, 1, 2, 4, 6, 7, 8, 9, 11, 12, 13, 14)
}

// A node without partitions is at home: it owns nothing, and is not asked.
func TestHomeWithoutPartitions(t *testing.T) {
	c := east()
	c.Nodes = append([]api.NodeDef{{Zone: 1}}, c.Nodes...)
	c.Nodes[3].Zone = 0
	r := made(t, c)
	for part := range 4 {
		owners, _ := ring.Owners(c, part)
		asksInTurn(t, r, keyIn(t, c, part), part+1, owners...)
	}
	takeIs(t, r, pong(0, 0), nil, nil)
}

// askingNode lets a get ask owners till it asks a node; those ahead of it say that they cannot.
func askingNode(t *testing.T, r *Router, node int) {
	t.Helper()
	key := keyIn(t, r.cluster, node)
	n, list, e := r.Get(key)
	for e == api.OK && len(list) == 1 && list[0].To != node {
		list, _, e = r.Take(got(list[0].To, n, key, api.ErrEmpty, 0, ""))
	}
	if e != api.OK || len(list) != 1 {
		t.Fatalf("node %d was not asked: %v, %d", node, list, e)
	}
}

// hush is a router of which these nodes are silent, for they did not answer: the bans of the first lot end first, those of each lot at the same time. The get that asked a node is open still.
func hush(t *testing.T, c api.Cluster, lots ...[]int) *Router {
	t.Helper()
	if c.GetWait != 10 || c.Strikes != 1 {
		t.Fatalf("GetWait %d, Strikes %d", c.GetWait, c.Strikes)
	}
	r := made(t, c)
	for _, nodes := range lots {
		for _, node := range nodes {
			askingNode(t, r, node)
		}
		r.Tick()
	}
	for range 9 {
		r.Tick()
	}
	silentAre(t, r, slices.Sorted(slices.Values(slices.Concat(lots...)))...)
	return r
}

// each lot is one node.
func each(nodes []int) [][]int {
	var lots [][]int
	for _, node := range nodes {
		lots = append(lots, []int{node})
	}
	return lots
}

// Owners that are silent: none, the first, the last, some, all; by rising ends of their bans.
func TestSilentOwnersComeLast(t *testing.T) {
	c := round(4, 4, 10, 1, 100)
	key := keyIn(t, c, 1)
	for _, x := range []struct{ silent, want []int }{
		{nil, []int{1, 2, 3, 0}},
		{[]int{1}, []int{2, 3, 0, 1}},
		{[]int{0}, []int{1, 2, 3, 0}},
		{[]int{3}, []int{1, 2, 0, 3}},
		{[]int{1, 2}, []int{3, 0, 1, 2}},
		{[]int{2, 1}, []int{3, 0, 2, 1}},
		{[]int{0, 3, 1}, []int{2, 0, 3, 1}},
		{[]int{1, 2, 3, 0}, []int{1, 2, 3, 0}},
		{[]int{0, 1, 2, 3}, []int{0, 1, 2, 3}},
		{[]int{3, 1, 0, 2}, []int{3, 1, 0, 2}},
	} {
		asksInTurn(t, hush(t, c, each(x.silent)...), key, len(x.silent)+1, x.want...)
	}
}

// Home and silence: who is at home and silent comes behind all that are not silent; of two with the same end the one at home comes first.
func TestHomeAndSilence(t *testing.T) {
	c := zoned(round(4, 4, 10, 1, 100), 5, 5, 0, 5, 0) // 0 and 2 are at home
	key := keyIn(t, c, 1)
	for _, x := range []struct {
		silent [][]int
		want   []int
	}{
		{nil, []int{2, 0, 1, 3}},
		{[][]int{{2}}, []int{0, 1, 3, 2}},
		{[][]int{{0}}, []int{2, 1, 3, 0}},
		{[][]int{{1}}, []int{2, 0, 3, 1}},
		{[][]int{{2}, {0}}, []int{1, 3, 2, 0}},
		{[][]int{{1}, {2}}, []int{0, 3, 1, 2}},
		{[][]int{{2, 1}}, []int{0, 3, 2, 1}},
		{[][]int{{1, 2}}, []int{0, 3, 2, 1}},
		{[][]int{{3}, {1}}, []int{2, 0, 3, 1}},
		{[][]int{{3, 1}}, []int{2, 0, 1, 3}},
		{[][]int{{1}, {3}, {0}, {2}}, []int{1, 3, 0, 2}},
		{[][]int{{0, 1, 2, 3}}, []int{2, 0, 1, 3}},
		{[][]int{{3, 0}, {1, 2}}, []int{0, 3, 2, 1}},
	} {
		r := hush(t, c, x.silent...)
		asksInTurn(t, r, key, r.last+1, x.want...)
	}
}

// A ban that has ended counts no more, and one that is about to end does.
func TestOrderBehindABan(t *testing.T) {
	c := round(3, 3, 10, 1, 3)
	r, key := hush(t, c, []int{0}), keyIn(t, c, 0)
	getIs(t, r, key, 2, 1)
	wait(t, r, 2)
	getIs(t, r, key, 3, 1)
	wait(t, r, 1)
	getIs(t, r, key, 4, 0)
}

// The order is made when a get is opened, and stays: who falls silent later, or speaks again, keeps his place.
func TestOrderStays(t *testing.T) {
	c := round(3, 3, 10, 1, 100)
	key := keyIn(t, c, 0)
	r := made(t, c)
	askingNode(t, r, 1)
	wait(t, r, 5)
	getIs(t, r, key, 2, 0)
	for range 5 {
		r.Tick()
	}
	silentAre(t, r, 1)
	getIs(t, r, key, 3, 0)
	takeIs(t, r, got(0, 2, key, api.ErrEmpty, 0, ""), out(ask(1, 2, key)), nil)
	takeIs(t, r, got(0, 3, key, api.ErrEmpty, 0, ""), out(ask(2, 3, key)), nil)
	takeIs(t, r, got(2, 3, key, api.ErrEmpty, 0, ""), out(ask(1, 3, key)), nil)
	takeIs(t, r, got(1, 2, key, api.ErrEmpty, 0, ""), out(ask(2, 2, key)), nil)

	r = hush(t, c, []int{0})
	getIs(t, r, key, 2, 1)
	takeIs(t, r, pong(0, 0), nil, nil)
	getIs(t, r, key, 3, 0)
	takeIs(t, r, got(1, 2, key, api.ErrEmpty, 0, ""), out(ask(2, 2, key)), nil)
	takeIs(t, r, got(2, 2, key, api.ErrEmpty, 0, ""), out(ask(0, 2, key)), nil)
}

// A Get changes nothing of what is thought of nodes, and lets no time go by.
func TestGetLeavesTheDetector(t *testing.T) {
	c := round(3, 3, 10, 1, 100)
	r := hush(t, c, []int{1})
	is(t, "the time", r.now, 10)
	getIs(t, r, keyIn(t, c, 1), 2, 2)
	getIs(t, r, keyIn(t, c, 0), 3, 0)
	getFails(t, r, "", api.ErrKey)
	silentAre(t, r, 1)
	is(t, "the time", r.now, 10)
}
