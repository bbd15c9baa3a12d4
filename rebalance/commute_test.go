package rebalance

import (
	"fmt"
	"slices"
	"testing"

	"granary/api"
	"granary/builder"
	"granary/disk"
	"granary/engine"
	"granary/ring"
	"granary/shelf"
)

// P23.8

// depotOf is where a version was built.
func depotOf(t *testing.T, c api.Cluster, j api.Job, pairs []api.Pair) *disk.Disk {
	t.Helper()
	d := fresh(t)
	_, e := builder.Build(d, c, j, pairs)
	done(t, e)
	return d
}

// keptOf are the pairs of a dataset that a policy keeps: the first or the last one of each key.
func keptOf(pairs []api.Pair, policy int) []api.Pair {
	var kept []api.Pair
	for _, p := range pairs {
		at := slices.IndexFunc(kept, func(q api.Pair) bool { return q.Key == p.Key })
		if at < 0 {
			kept = append(kept, p)
		} else if policy == api.KeepLast {
			kept[at] = p
		}
	}
	return kept
}

// drawnPairs are a dataset in which keys may come twice.
func drawnPairs(lot *dice) []api.Pair {
	var pairs []api.Pair
	keys := 1 + lot.roll(80)
	for range lot.roll(oneOf(lot, 2, 12, 90)) {
		key := fmt.Sprint("k", lot.roll(keys))
		if lot.roll(8) == 0 {
			key = string([]byte{byte(lot.roll(256)), byte(lot.roll(256))})
		}
		value := make([]byte, lot.roll(oneOf(lot, 1, 4, 60)))
		for i := range value {
			value[i] = byte(lot.roll(256))
		}
		pairs = append(pairs, api.Pair{Key: key, Value: string(value)})
	}
	return pairs
}

// moving is a change of definitions under which a version is carried.
type moving struct {
	what      string
	was, next api.Cluster
	version   int
	kept      []api.Pair
	old, new  *disk.Disk // the depots
}

func drawnMoving(t *testing.T, lot *dice) moving {
	t.Helper()
	parts, width, chunks := 1+lot.roll(oneOf(lot, 1, 4, 9)), 1+lot.roll(oneOf(lot, 1, 2, 16)), 1+lot.roll(3)
	m := moving{was: drawn(lot, parts, width, chunks), next: drawn(lot, parts, width, chunks), version: oneOf(lot, 1, 2, 10, last)}
	pairs, policy := drawnPairs(lot), lot.roll(2)
	m.kept = keptOf(pairs, policy)
	m.old = depotOf(t, m.was, api.Job{Version: m.version, Policy: policy, Memory: 1000, FanIn: 2 + lot.roll(5)}, pairs)
	other := slices.Clone(m.kept)
	for i := range other {
		k := lot.roll(i + 1)
		other[i], other[k] = other[k], other[i]
	}
	m.new = depotOf(t, m.next, api.Job{Version: m.version, Policy: api.KeepNone, Memory: 20000, FanIn: 16}, other)
	m.what = fmt.Sprintf("version %d, %d pairs, %+v, then %+v", m.version, len(m.kept), m.was.Nodes, m.next.Nodes)
	return m
}

// build is the directory of a node in a depot.
func build(version, node int) string { return fmt.Sprintf("build-%d/node-%d", version, node) }

func (m moving) fleet(t *testing.T) []*disk.Disk {
	t.Helper()
	var all []*disk.Disk
	for node := range m.was.Nodes {
		d := fresh(t)
		lay(t, d, engine.Dir(m.version), under(m.old, build(m.version, node)))
		all = append(all, d)
	}
	return all
}

// served holds that a node's engine, under next, takes what was carried and answers by it.
func (m moving) served(t *testing.T, d *disk.Disk, node int, keys []string) {
	t.Helper()
	x, e := engine.Open(d, m.next, node)
	done(t, e)
	same(t, m.what+": Partial", x.Partial(), []int{m.version})
	is(t, m.what+": Admit", x.Admit(m.version), api.OK)
	is(t, m.what+": Swap", x.Swap(m.version, 1, 1), api.OK)
	for _, key := range keys {
		place, e := ring.Locate(m.next, key)
		done(t, e)
		want := api.Answer{Version: m.version}
		if at := slices.IndexFunc(m.kept, func(p api.Pair) bool { return p.Key == key }); at >= 0 {
			want.Found, want.Value = true, m.kept[at].Value
		}
		if !slices.Contains(plainOwners(m.next, place.Part), node) {
			_, e := x.Get(key)
			is(t, m.what+": another's key", e, api.ErrForeign)
		} else if a, e := x.Get(key); a != want || e != api.OK {
			t.Errorf("%s: node %d: Get(%q) = %+v, %d, want %+v", m.what, node, key, a, e, want)
		}
	}
}

func TestCommutes(t *testing.T) {
	lot := dice(2308)
	for range 120 {
		m := drawnMoving(t, &lot)
		all := m.fleet(t)
		keys := []string{"nobody has it", "abc", "k", "\x00"}
		for _, p := range m.kept {
			keys = append(keys, p.Key)
		}
		for node := range m.next.Nodes {
			d := fresh(t)
			if node < len(all) {
				d = all[node] // the machine goes on with its own disk
			}
			if !has(d, "store") {
				put(t, d, "store/", "")
				safe(t, d)
			}
			x := trip{m.was, m.next, m.version, node, all, engine.Dir(m.version), d, "carried"}
			told := x.carries(t, m.what, under(m.new, build(m.version, node)))
			_, e := shelf.Open(d, "carried", m.next, node, m.version)
			is(t, m.what+": a shelf of it", e, api.OK)
			is(t, m.what+": its slots", told.Slots, len(plainHolds(m.next, node)))
			x.to = fresh(t)
			put(t, x.to, "store/", "")
			x.toDir = engine.PartialDir(m.version)
			is(t, m.what+": again", x.carries(t, m.what, under(m.new, build(m.version, node))), told)
			m.served(t, x.to, node, keys)
		}
		if t.Failed() {
			return
		}
	}
}

// What was carried may be carried on, and back: it is as good as what was built.
func TestCarriedOn(t *testing.T) {
	pairs := data(40, "x")
	chain := []api.Cluster{east(), west(), fits()["new nodes alone"], fits()["sixteen nodes"], fits()["one replica"], fits()["three replicas"], fits()["a node less"], settings(1, 1, 2, many(4)), east()}
	all := fleet(t, chain[0], 1, pairs, home)
	for i, next := range chain[1:] {
		var more []*disk.Disk
		for node := range next.Nodes {
			d := laid(t, "store/")
			x := trip{chain[i], next, 1, node, all, home, d, home}
			x.carries(t, fmt.Sprintf("link %d, node %d", i, node), filesOf(t, next, node, 1, pairs))
			more = append(more, d)
		}
		all = more
	}
}

// A machine under both definitions: it serves the version by was, carries it to a number of its own by next, and serves that.
func TestWhileItServes(t *testing.T) {
	pairs := data(20, "y")
	all := fleet(t, east(), 1, pairs, home)
	var nodes []*engine.Engine
	for node, d := range all {
		x, e := engine.Open(d, east(), node)
		done(t, e, x.Swap(1, 1, 1))
		nodes = append(nodes, x)
	}
	for node := range 3 {
		x := trip{east(), fits()["other places"], 1, node, all, home, all[node], engine.PartialDir(1)}
		x.carries(t, "beside its own", filesOf(t, fits()["other places"], node, 1, pairs))
		for _, p := range pairs {
			place, _ := ring.Locate(east(), p.Key)
			if slices.Contains(plainOwners(east(), place.Part), node) {
				if a, e := nodes[node].Get(p.Key); e != api.OK || a.Value != p.Value {
					t.Errorf("node %d: Get(%q) = %+v, %d", node, p.Key, a, e)
				}
			}
		}
		same(t, "Partial", nodes[node].Partial(), []int{1})
	}
}
