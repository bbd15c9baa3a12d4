package router

import (
	"slices"
	"strings"

	"granary/api"
	"granary/plain"
	"granary/ring"
)

const nobody = -1 // stands for a node where none answered

// get is one that is open.
type get struct {
	ticket int
	key    string
	owners []int // of the key, in the order in which they are asked
	asked  int   // how many of them were
	at     int   // the time at which the last of these was
}

// news is what comes of a call, each list in the order in which it came about.
type news struct {
	out  []api.Msg
	ends []api.Outcome
}

// open makes a get that has asked nobody yet.
func (r *Router) open(key string) *get {
	r.last++
	g := &get{ticket: r.last, key: strings.Clone(key), owners: r.owners(key)} // else a key out of a longer text would keep all of it
	r.gets[g.ticket] = g
	return g
}

// owners are a key's, in the order in which they are asked. The cluster and the key were looked at, so nothing here can be refused.
func (r *Router) owners(key string) []int {
	place, _ := ring.Locate(r.cluster, key)
	owners, _ := ring.Owners(r.cluster, place.Part)
	row, _ := r.watch.Order(plain.HomeFirst(r.cluster, owners)...)
	return row
}

// lastAsked is the owner that a get asked last. From the call that opened it on, there is one.
func (g *get) lastAsked() int { return g.owners[g.asked-1] }

// goOn asks the next owner, or ends a get that has asked all.
func (r *Router) goOn(g *get, n *news) {
	if g.asked == len(g.owners) {
		r.end(g, api.Outcome{Code: api.ErrNoAnswer, Node: nobody}, n)
		return
	}
	g.asked++
	g.at = r.now
	n.out = append(n.out, api.Msg{Kind: api.MsgGet, From: api.AddrClient, To: g.lastAsked(), Id: g.ticket, Key: g.key})
}

func (r *Router) end(g *get, o api.Outcome, n *news) {
	delete(r.gets, g.ticket)
	o.Ticket, o.Key = g.ticket, g.key
	n.ends = append(n.ends, o)
}

// due are the tickets of the gets whose owner has had its time, rising.
func (r *Router) due() []int {
	var tickets []int
	for ticket, g := range r.gets {
		if r.now-g.at == r.cluster.GetWait {
			tickets = append(tickets, ticket)
		}
	}
	slices.Sort(tickets)
	return tickets
}

// asker is the get to which a message belongs; nil: it belongs to none.
func (r *Router) asker(m api.Msg) *get {
	g := r.gets[m.Id]
	if m.Kind != api.MsgGot || g == nil || g.key != m.Key || !slices.Contains(g.owners[:g.asked], m.From) {
		return nil
	}
	return g
}

// hear lets an answer come to a get. A good one counts whoever of the asked gives it; one that says no lets it go on just where nobody was asked since.
func (r *Router) hear(g *get, m api.Msg, n *news) {
	switch {
	case m.Code == api.OK:
		r.end(g, api.Outcome{Code: api.OK, Node: m.From, Version: m.Version, Value: m.Value}, n)
	case m.Code == api.ErrNoKey:
		r.end(g, api.Outcome{Code: api.ErrNoKey, Node: m.From, Version: m.Version}, n)
	case m.From == g.lastAsked():
		r.goOn(g, n)
	}
}
