package rebalance

import (
	"fmt"
	"slices"
	"strings"
	"testing"

	"granary/api"
	"granary/disk"
	"granary/paper"
)

// P23.4, P23.9

// tagged are the disks of a cluster's nodes, each whole with a dataset of its own: so it is seen who gave what.
func tagged(t *testing.T, c api.Cluster) []*disk.Disk {
	t.Helper()
	var all []*disk.Disk
	for node := range c.Nodes {
		d := fresh(t)
		lay(t, d, home, filesOf(t, c, node, 1, data(20+node, fmt.Sprint("of-", node))))
		all = append(all, d)
	}
	return all
}

// sourced holds what a Carry takes from whom.
func sourced(t *testing.T, what string, x trip) {
	t.Helper()
	told, files, wrong := x.plain(t)
	if wrong != api.OK {
		x.refuses(t, what, wrong)
		return
	}
	is(t, what+": the answer", x.carries(t, what, files), told)
}

// Each node of was is there or not, in all ways.
func TestSources(t *testing.T) {
	three := with(east(), func(c *api.Cluster) { c.Replicas = 3 })
	one := with(east(), func(c *api.Cluster) { c.Replicas = 1 })
	mixed := fits()["other places"]
	missing, local, others := 0, 0, 0
	for _, was := range []api.Cluster{east(), west(), three, one, mixed, fits()["a node each"]} {
		all := tagged(t, was)
		for _, next := range []api.Cluster{east(), west(), three, one, mixed} {
			for set := range 1 << len(was.Nodes) {
				from := slices.Clone(all)
				for node := range from {
					if set>>node&1 == 0 {
						from[node] = nil
					}
				}
				for node := range next.Nodes {
					x := trek(t, was, next, node, from)
					told, _, e := x.plain(t)
					if e == api.ErrMissing {
						missing++
					}
					local += told.Local
					others += told.Slots - told.Local
					sourced(t, fmt.Sprintf("%v, then %v, node %d, of %b", was.Nodes, next.Nodes, node, set), x)
				}
			}
		}
	}
	if missing < 100 || local < 100 || others < 100 {
		t.Errorf("too few: %d missing, %d local, %d from others", missing, local, others)
	}
}

// By hand: the second owner gives where the first one is not whole, whatever the node's number.
func TestSourceByHand(t *testing.T) {
	was := with(east(), func(c *api.Cluster) { c.Replicas = 3 })  // of 0: 0, 1, 2; of 1: 1, 0, 2; of 2: 0, 2, 1; of 3: 2, 0, 1
	next := settings(2, 1, 2, nil, []int{2}, nil, []int{0, 1, 3}) // of 0: 3, 1; of 1: 3, 1; of 2: 1, 3; of 3: 3, 1
	all := tagged(t, was)
	for _, y := range []struct {
		node   int
		gone   []int
		givers [4]int // of the partitions, as it takes them; -1: nobody
	}{
		{3, nil, [4]int{0, 1, 0, 2}},
		{3, []int{0}, [4]int{1, 1, 2, 2}},
		{3, []int{1}, [4]int{0, 0, 0, 2}},
		{3, []int{2}, [4]int{0, 1, 0, 0}},
		{3, []int{0, 1}, [4]int{2, 2, 2, 2}},
		{3, []int{0, 2}, [4]int{1, 1, 1, 1}},
		{3, []int{1, 2}, [4]int{0, 0, 0, 0}},
		{1, nil, [4]int{1, 1, 1, 1}},
		{1, []int{0, 2}, [4]int{1, 1, 1, 1}},
		{1, []int{1}, [4]int{0, 0, 0, 2}},
		{1, []int{1, 0}, [4]int{2, 2, 2, 2}},
	} {
		from := slices.Clone(all)
		for _, node := range y.gone {
			from[node] = nil
		}
		x := trek(t, was, next, y.node, from)
		told, e := x.carry(t, "by hand")
		is(t, "by hand", e, api.OK)
		for _, f := range under(x.to, goal) {
			if strings.HasSuffix(f.Key, ".data") && f.Value != "" {
				giver := y.givers[f.Key[0]-'0']
				if !strings.Contains(f.Value, fmt.Sprint("of-", giver)) || strings.Count(f.Value, "of-") != strings.Count(f.Value, fmt.Sprint("of-", giver)) {
					t.Errorf("node %d without %v: %s is %q, and not of node %d", y.node, y.gone, f.Key, f.Value, giver)
				}
			}
		}
		if own := y.node < 3 && !slices.Contains(y.gone, y.node); own != (told.Local == 4) || !own && told.Local != 0 {
			t.Errorf("node %d without %v: %+v", y.node, y.gone, told)
		}
	}
}

// spoilings are ways in which a node of E, which is whole, is not so any more: each changes its disk, or gives another.
func spoilings(t *testing.T, node int) map[string]func(d *disk.Disk) *disk.Disk {
	t.Helper()
	here := func(do func(d *disk.Disk)) func(d *disk.Disk) *disk.Disk {
		return func(d *disk.Disk) *disk.Disk { do(d); return d }
	}
	all := map[string]func(d *disk.Disk) *disk.Disk{
		"gone":            func(*disk.Disk) *disk.Disk { return nil },
		"never made":      func(*disk.Disk) *disk.Disk { return &disk.Disk{} },
		"empty":           func(*disk.Disk) *disk.Disk { return fresh(t) },
		"down":            here(func(d *disk.Disk) { down(t, d) }),
		"another version": here(func(d *disk.Disk) { away(t, d, home); lay(t, d, home, filesOf(t, east(), node, 2, data(20, "of-x"))) }),
		"another node": here(func(d *disk.Disk) {
			away(t, d, home)
			lay(t, d, home, filesOf(t, east(), (node+1)%3, 1, data(20, "of-x")))
		}),
		"another definition": here(func(d *disk.Disk) {
			away(t, d, home)
			lay(t, d, home, filesOf(t, fits()["three replicas"], node, 1, data(20, "of-x")))
		}),
		"another store": here(func(d *disk.Disk) {
			away(t, d, home)
			lay(t, d, home, filesOf(t, unfits()["the store"], node, 1, data(20, "of-x")))
		}),
		"under another name":  here(func(d *disk.Disk) { done(t, d.Rename(home, "store/version-2")) }),
		"a file of that name": here(func(d *disk.Disk) { away(t, d, home); put(t, d, home, "x") }),
		"a file more":         here(func(d *disk.Disk) { put(t, d, home+"/journal", "") }),
		"a directory more":    here(func(d *disk.Disk) { put(t, d, home+"/x/", "") }),
		"an empty directory":  here(func(d *disk.Disk) { away(t, d, home); put(t, d, home+"/", "") }),
		"no such directory":   here(func(d *disk.Disk) { away(t, d, home) }),
		"the manifest of version 2": here(func(d *disk.Disk) {
			for _, f := range filesOf(t, east(), node, 2, data(20+node, fmt.Sprint("of-", node))) {
				if f.Key == "manifest" {
					rewrite(t, d, home+"/"+f.Key, f.Value)
				}
			}
		}),
	}
	for _, f := range filesOf(t, east(), node, 1, data(20+node, fmt.Sprint("of-", node))) {
		path := home + "/" + f.Key
		for at := range min(len(f.Value), 3) {
			at = at * (len(f.Value) - 1) / 2 // the first byte, one amid, the last
			all[fmt.Sprint(f.Key, ", byte ", at)] = here(func(d *disk.Disk) {
				b := []byte(f.Value)
				b[at] ^= 1
				rewrite(t, d, path, string(b))
			})
		}
		all[f.Key+", a byte more"] = here(func(d *disk.Disk) { done(t, d.Append(path, "x")) })
		if f.Value != "" {
			all[f.Key+", a byte less"] = here(func(d *disk.Disk) { done(t, d.Truncate(path, len(f.Value)-1)) })
		}
		all[f.Key+", away"] = here(func(d *disk.Disk) { away(t, d, path) })
		all[f.Key+", a directory"] = here(func(d *disk.Disk) { away(t, d, path); put(t, d, path+"/", "") })
	}
	return all
}

// A node that is not whole, in whatever way, is as though it were gone.
func TestSpoilt(t *testing.T) {
	whole := tagged(t, east())
	for node := range 3 {
		for what, spoils := range spoilings(t, node) {
			spoilt, gone := slices.Clone(whole), slices.Clone(whole)
			spoilt[node], gone[node] = spoils(copied(t, whole[node])), nil
			for to := range 4 {
				x := trek(t, east(), west(), to, gone)
				want, files, e := x.plain(t)
				is(t, what, e, api.OK)
				x = trek(t, east(), west(), to, spoilt)
				is(t, what+": the answer", x.carries(t, fmt.Sprintf("node %d: %s", node, what), files), want)
			}
			// With the other owner gone too there is nobody.
			for other := range 3 {
				if other != node {
					both := slices.Clone(spoilt)
					both[other] = nil
					for to := range 4 {
						sourced(t, fmt.Sprintf("node %d: %s, and %d gone", node, what, other), trek(t, east(), west(), to, both))
					}
				}
			}
		}
	}
}

// Where all have what was built of one dataset, it is all the same who gives it.
func TestAsLongAsOneIsLeft(t *testing.T) {
	pairs := data(30, "")
	three := with(east(), func(c *api.Cluster) { c.Replicas = 3 })
	for _, was := range []api.Cluster{east(), three, west()} {
		all := fleet(t, was, 1, pairs, home)
		for _, next := range []api.Cluster{east(), west(), three} {
			for set := range 1 << len(was.Nodes) {
				from := slices.Clone(all)
				for node := range from {
					if set>>node&1 == 0 {
						from[node] = nil
					}
				}
				for node := range next.Nodes {
					x := trek(t, was, next, node, from)
					left := true
					for _, slot := range plainHolds(next, node) {
						owner, _ := x.source(slot.Part)
						left = left && owner >= 0
					}
					what := fmt.Sprintf("%v, then %v, node %d, of %b", was.Nodes, next.Nodes, node, set)
					if !left {
						x.refuses(t, what, api.ErrMissing)
					} else {
						x.carries(t, what, filesOf(t, next, node, 1, pairs))
					}
				}
			}
		}
	}
}

// One disk in several places is the node's whose directory lies there, and nobody else's.
func TestOneDiskInSeveralPlaces(t *testing.T) {
	whole := tagged(t, east())
	for a := range 3 {
		for set := range 8 {
			from, gone := slices.Clone(whole), slices.Clone(whole)
			for place := range 3 {
				if set>>place&1 == 1 {
					from[place] = whole[a]
					if place != a {
						gone[place] = nil
					}
				}
			}
			for node := range 4 {
				want, files, e := trek(t, east(), west(), node, gone).plain(t)
				x := trek(t, east(), west(), node, from)
				if e != api.OK {
					x.refuses(t, "one disk", e)
				} else {
					is(t, "one disk", x.carries(t, "one disk", files), want)
				}
			}
		}
	}
	// The directories of all nodes lie on one disk: just one of them is the one that was asked for.
	d := fresh(t)
	for node := range 3 {
		lay(t, d, fmt.Sprint("node-", node), filesOf(t, east(), node, 1, chaff()))
	}
	for node := range 3 {
		x := trek(t, east(), east(), node, []*disk.Disk{d, d, d})
		x.dir = "node-1"
		if node == 1 {
			x.carries(t, "its own directory", filesOf(t, east(), 1, 1, chaff()))
		} else {
			x.refuses(t, "another's directory", api.ErrMissing)
		}
	}
}

// A node that holds nothing by was has a directory of its own too, but nobody gets anything of it; and one that holds nothing by next needs nobody.
func TestNothingHeld(t *testing.T) {
	was := settings(2, 1, 2, []int{0, 2}, []int{1}, []int{3}, nil)
	from := fleet(t, was, 1, data(9, ""), home)
	is(t, "the files of who holds nothing", len(under(from[3], home)), 2)
	x := trek(t, was, west(), 3, from)
	is(t, "its own gives nothing", x.carries(t, "it held nothing", filesOf(t, west(), 3, 1, data(9, ""))).Local, 0)
	x = trek(t, east(), was, 3, []*disk.Disk{nil, nil, nil})
	told := x.carries(t, "it is to hold nothing", filesOf(t, was, 3, 1, nil))
	is(t, "it is to hold nothing", told, api.Carried{Files: 2, Bytes: told.Bytes})
	m, e := paper.ParseMeta(bytesOf(t, x.to, goal+"/meta"))
	is(t, "its meta file", e, api.OK)
	is(t, "its meta file", m, api.Meta{Store: "east", Version: 1, Node: 3, Parts: 4, Replicas: 2, Width: 1, Chunks: 2})
}
