package inspect

import (
	"fmt"
	"slices"
	"strconv"
	"strings"
	"testing"

	"granary/api"
	"granary/builder"
	"granary/disk"
	"granary/paper"
)

// P22.4

// nodesOf are the findings of a version of E that is built whole, with these counts of the nodes, and of the keys at last.
func nodesOf(version int, counts ...int) []api.Finding {
	path := "build-" + strconv.Itoa(version)
	list := []api.Finding{f(path, isGood, 0, version, counts[len(counts)-1])}
	for node, count := range counts[:len(counts)-1] {
		list = append(list, f(fmt.Sprintf("%s/node-%d", path, node), isGood, 0, version, count))
	}
	return list
}

func TestBuilt(t *testing.T) {
	for _, c := range []api.Cluster{east(), small(), pair(), settings("three", 3, 2, 1, api.NodeDef{Parts: []int{1}}, api.NodeDef{}, api.NodeDef{Parts: []int{0, 3}}, api.NodeDef{Parts: []int{2}})} {
		d := fresh(t)
		var want []api.Finding
		for _, version := range []int{1, 10, 2, last} {
			pairs := data(version)[:min(20, version+3)]
			builds(t, d, c, version, pairs)
			var counts []int
			for node := range c.Nodes {
				counts = append(counts, countOf(t, c, node, pairs))
			}
			want = append(want, nodesOf(version, append(counts, len(pairs))...)...)
		}
		depotIs(t, "four versions", d, c, want...)
	}
	d := fresh(t)
	builds(t, d, east(), 7, nil)
	depotIs(t, "no pairs", d, east(), nodesOf(7, 0, 0, 0, 0)...)
	builds(t, d, east(), 8, []api.Pair{{Key: "abc", Value: "one"}, {Key: "abc", Value: "two"}})
	depotIs(t, "one key in two pairs", d, east(), append(nodesOf(7, 0, 0, 0, 0), nodesOf(8, 1, 1, 0, 1)...)...)
}

func TestDepotsNames(t *testing.T) {
	for name, version := range versionNames() {
		for how := range 3 {
			for _, begin := range []string{"build-", "part-", "gone-"} {
				d := fresh(t)
				three(t, d, how, begin+name)
				want := []api.Finding{isNobodys(begin + name)}
				switch {
				case version == 0:
				case begin == "part-":
					want = []api.Finding{f(begin+name, isLeft, 0, version, 0)}
				case begin == "gone-":
					want = []api.Finding{f(begin+name, isGone, 0, version, 0)}
				case how == 0:
					want = []api.Finding{f(begin+name, isBroken, api.ErrKind, version, 0)}
				default:
					want = []api.Finding{f(begin+name, isBroken, api.ErrNone, version, 0)}
					for node := range 3 {
						want = append(want, f(fmt.Sprintf("%s%s/node-%d", begin, name, node), isBroken, api.ErrNone, version, 0))
					}
					if how == 2 {
						want = append(want, isNobodys(begin+name+"/x"))
					}
				}
				depotIs(t, begin+name, d, east(), want...)
			}
		}
	}
	for _, name := range []string{"build", "built-1", "builds-1", "xbuild-1", "build.1", "part", "parts-1", "gone", "node-0", "store", "job", "job.new", "manifest", "sort", strings.Repeat("x", 40)} {
		for how := range 3 {
			d := fresh(t)
			three(t, d, how, name)
			depotIs(t, name, d, east(), isNobodys(name))
		}
	}
	depotIs(t, "nothing", fresh(t), east())
}

// What of one number lies beside each other.
func TestOfOneNumber(t *testing.T) {
	d := storehouse(t)
	put(t, d, "part-7/node-0/meta", "x")
	put(t, d, "gone-7/", "")
	depotIs(t, "all of 7", d, east(), append(nodesOf(7, 1, 1, 0, 1), f("gone-7", isGone, 0, 7, 0), f("part-7", isLeft, 0, 7, 0))...)
	put(t, d, "part-8", "")
	put(t, d, "gone-8", "")
	put(t, d, "build-8", "")
	depotIs(t, "files of 8", d, east(), append(nodesOf(7, 1, 1, 0, 1),
		f("build-8", isBroken, api.ErrKind, 8, 0), f("gone-7", isGone, 0, 7, 0), f("gone-8", isGone, 0, 8, 0), f("part-7", isLeft, 0, 7, 0), f("part-8", isLeft, 0, 8, 0))...)
	done(t, d.Rename("build-7", "part-9"))
	depotIs(t, "7 on its way out", d, east(),
		f("build-8", isBroken, api.ErrKind, 8, 0), f("gone-7", isGone, 0, 7, 0), f("gone-8", isGone, 0, 8, 0),
		f("part-7", isLeft, 0, 7, 0), f("part-8", isLeft, 0, 8, 0), f("part-9", isLeft, 0, 9, 0))
}

// brokenBuild holds what is found of version 7 with what is done to it: the codes of the nodes, OK where one is good, and that of the whole.
func brokenBuild(t *testing.T, what string, whole api.Errno, nodes [3]api.Errno, do func(d *disk.Disk), more ...api.Finding) {
	t.Helper()
	d := storehouse(t)
	do(d)
	list := nodesOf(7, 1, 1, 0, 1)
	if whole != api.OK {
		list[0] = f(list[0].Path, isBroken, whole, 7, 0)
	}
	for node, code := range nodes {
		if code != api.OK {
			list[node+1] = f(list[node+1].Path, isBroken, code, 7, 0)
		}
	}
	list = append(list, more...)
	slices.SortFunc(list, func(a, b api.Finding) int { return strings.Compare(a.Path, b.Path) })
	depotIs(t, what, d, east(), list...)
}

func TestBrokenBuilds(t *testing.T) {
	ok, none, missing, damage, extra := api.OK, api.ErrNone, api.ErrMissing, api.ErrDamage, api.ErrExtra
	for node := range 3 {
		dir := "build-7/node-" + strconv.Itoa(node)
		only := func(code api.Errno) [3]api.Errno {
			var codes [3]api.Errno
			codes[node] = code
			return codes
		}
		brokenBuild(t, "a directory away", none, only(none), func(d *disk.Disk) { away(t, d, dir) })
		brokenBuild(t, "a file for a directory", api.ErrKind, only(api.ErrKind), func(d *disk.Disk) {
			away(t, d, dir)
			put(t, d, dir, "")
		})
		brokenBuild(t, "meta away", missing, only(missing), func(d *disk.Disk) { away(t, d, dir+"/meta") })
		brokenBuild(t, "meta turned", damage, only(damage), func(d *disk.Disk) { turn(t, d, dir+"/meta", 3) })
		brokenBuild(t, "a file more", extra, only(extra), func(d *disk.Disk) { put(t, d, dir+"/x", "") })
		brokenBuild(t, "no manifest", api.ErrForm, only(api.ErrForm), func(d *disk.Disk) { rewrite(t, d, dir+"/manifest", "") })
	}
	spoil := func(node int, name string) func(d *disk.Disk) {
		return func(d *disk.Disk) { turn(t, d, fmt.Sprintf("build-7/node-%d/%s", node, name), 0) }
	}
	// Of two that are broken the one with the lowest number says why.
	brokenBuild(t, "0 and 1", damage, [3]api.Errno{damage, none, ok}, func(d *disk.Disk) { spoil(0, "meta")(d); away(t, d, "build-7/node-1") })
	brokenBuild(t, "1 and 2", none, [3]api.Errno{ok, none, damage}, func(d *disk.Disk) { spoil(2, "meta")(d); away(t, d, "build-7/node-1") })
	brokenBuild(t, "0 and 2", api.ErrForm, [3]api.Errno{api.ErrForm, ok, missing}, func(d *disk.Disk) { spoil(0, "manifest")(d); away(t, d, "build-7/node-2/meta") })
	brokenBuild(t, "all", extra, [3]api.Errno{extra, none, missing}, func(d *disk.Disk) {
		put(t, d, "build-7/node-0/x/", "")
		away(t, d, "build-7/node-1")
		away(t, d, "build-7/node-2/meta")
	})
	// Directories that were changed about.
	brokenBuild(t, "another's directory", missing, [3]api.Errno{missing, missing, ok}, func(d *disk.Disk) {
		done(t, d.Rename("build-7/node-0", "build-7/x"), d.Rename("build-7/node-1", "build-7/node-0"), d.Rename("build-7/x", "build-7/node-1"))
	})
	d := storehouse(t)
	done(t, d.Rename("build-7", "build-8"))
	other := func(path string) api.Finding { return f(path, isBroken, api.ErrOther, 8, 0) }
	depotIs(t, "another version", d, east(), other("build-8"), other("build-8/node-0"), other("build-8/node-1"), other("build-8/node-2"))
}

// A broken build beside a good one: each by itself.
func TestBuildsEachByItself(t *testing.T) {
	d := storehouse(t)
	builds(t, d, east(), 8, data(8))
	away(t, d, "build-7/node-2/meta")
	want := nodesOf(7, 1, 1, 0, 1)
	want[0], want[3] = f("build-7", isBroken, api.ErrMissing, 7, 0), f("build-7/node-2", isBroken, api.ErrMissing, 7, 0)
	depotIs(t, "7 is broken", d, east(), append(want, nodesOf(8, countOf(t, east(), 0, data(8)), countOf(t, east(), 1, data(8)), countOf(t, east(), 2, data(8)), 20)...)...)
}

// Entries that are no node's make no difference.
func TestOthersInABuild(t *testing.T) {
	for _, name := range []string{"node-3", "node-00", "node-01", "node--1", "node-", "node", "node-1x", "node-1.new", "node-16", "nod-1", "xnode-1", "x", "sort", "meta", "manifest", "build-7"} {
		for how := range 3 {
			brokenBuild(t, name, api.OK, [3]api.Errno{}, func(d *disk.Disk) { three(t, d, how, "build-7/"+name) }, isNobodys("build-7/"+name))
		}
	}
	for how := range 3 {
		d := storehouse(t)
		away(t, d, "build-7/node-1")
		three(t, d, how, "build-7/node-3")
		want := nodesOf(7, 1, 1, 0, 1)
		want[0], want[2] = f("build-7", isBroken, api.ErrNone, 7, 0), f("build-7/node-1", isBroken, api.ErrNone, 7, 0)
		depotIs(t, "one away, one more", d, east(), append(want, isNobodys("build-7/node-3"))...)
	}
}

// swapped is version 7 with node's files those of the same version with other pairs.
func swapped(t *testing.T, c api.Cluster, own, others []api.Pair, nodes ...int) *disk.Disk {
	t.Helper()
	d := fresh(t)
	builds(t, d, c, 7, own)
	for _, node := range nodes {
		dir := "build-7/node-" + strconv.Itoa(node)
		away(t, d, dir)
		lay(t, d, dir, filesOf(t, c, node, 7, others))
	}
	return d
}

func TestReplicasThatDiffer(t *testing.T) {
	one, two := single(), []api.Pair{{Key: "abc", Value: "two"}}
	for _, node := range []int{0, 1} {
		want := nodesOf(7, 1, 1, 0, 1)
		want[0] = f("build-7", isBroken, api.ErrContent, 7, 0)
		depotIs(t, "another value", swapped(t, east(), one, two, node), east(), want...)
	}
	depotIs(t, "another value in both", swapped(t, east(), one, two, 0, 1), east(), nodesOf(7, 1, 1, 0, 1)...)
	depotIs(t, "a node that has none of it", swapped(t, east(), one, two, 2), east(), nodesOf(7, 1, 1, 0, 1)...)
	// A pair fewer, a pair more; a broken node goes first.
	for node, counts := range [][]int{{0, 1, 0}, {1, 0, 0}} {
		want := nodesOf(7, append(counts, 0)...)
		want[0] = f("build-7", isBroken, api.ErrContent, 7, 0)
		depotIs(t, "a pair fewer", swapped(t, east(), one, nil, node), east(), want...)
		d := swapped(t, east(), one, nil, node)
		away(t, d, "build-7/node-2/meta")
		want[0], want[3] = f("build-7", isBroken, api.ErrMissing, 7, 0), f("build-7/node-2", isBroken, api.ErrMissing, 7, 0)
		depotIs(t, "a pair fewer, and a broken node", d, east(), want...)
	}
	// Each partition by itself: of each key another value at each of its owners.
	for i := range data(7) {
		other := data(7)
		other[i].Value = "another"
		for node := range 3 {
			has := countOf(t, east(), node, other[i:i+1]) == 1
			list, e := Depot(swapped(t, east(), data(7), other, node), east())
			is(t, "Depot", e, api.OK)
			is(t, "the kind", list[0].Kind == isBroken, has)
			is(t, "the code", list[0].Code == api.ErrContent, has)
			is(t, "the count", list[0].Count, map[bool]int{true: 0, false: 20}[has])
			is(t, "the rest", Verdict(list[1:]), isGood)
		}
	}
}

// With three replicas each one may be the one that differs.
func TestThreeReplicas(t *testing.T) {
	c := settings("three", 3, 1, 1, api.NodeDef{Parts: []int{0}}, api.NodeDef{Parts: []int{1}}, api.NodeDef{Parts: []int{2}})
	other := data(7)
	other[19].Value = "another"
	for mask := range 8 {
		var nodes []int
		for node := range 3 {
			if mask>>node&1 == 1 {
				nodes = append(nodes, node)
			}
		}
		want := nodesOf(7, 20, 20, 20, 20)
		if mask != 0 && mask != 7 {
			want[0] = f("build-7", isBroken, api.ErrContent, 7, 0)
		}
		depotIs(t, "three replicas", swapped(t, c, data(7), other, nodes...), c, want...)
	}
}

// One key for another, as many of them.
func TestOneKeyForAnother(t *testing.T) {
	own := []api.Pair{{Key: "abc", Value: "v"}}
	for i := range 1000 {
		key := fmt.Sprint("k", i)
		if countOf(t, pair(), 0, []api.Pair{{Key: key}}) != 1 || partOf(t, pair(), key) != partOf(t, pair(), "abc") {
			continue
		}
		want := nodesOf(7, 1, 1, 1)
		want[0] = f("build-7", isBroken, api.ErrContent, 7, 0)
		depotIs(t, key, swapped(t, pair(), own, []api.Pair{{Key: key, Value: "v"}}, 1), pair(), want...)
		return
	}
	t.Error("no key lies where abc lies")
}

// The cluster says which nodes there are, and which files they have.
func TestOtherClusters(t *testing.T) {
	d := storehouse(t)
	c := east()
	c.Nodes = append(c.Nodes, api.NodeDef{})
	depotIs(t, "a node more", d, c, f("build-7", isBroken, api.ErrNone, 7, 0), nodesOf(7, 1, 1, 0, 1)[1], nodesOf(7, 1, 1, 0, 1)[2], nodesOf(7, 1, 1, 0, 1)[3], f("build-7/node-3", isBroken, api.ErrNone, 7, 0))
	depotIs(t, "another cluster", d, small(), f("build-7", isBroken, api.ErrExtra, 7, 0), f("build-7/node-0", isBroken, api.ErrExtra, 7, 0), isNobodys("build-7/node-1"), isNobodys("build-7/node-2"))
	c = east()
	c.Store = "west"
	other := func(path string) api.Finding { return f(path, isBroken, api.ErrOther, 7, 0) }
	depotIs(t, "another store", d, c, other("build-7"), other("build-7/node-0"), other("build-7/node-1"), other("build-7/node-2"))
	c = east()
	c.Home, c.Quota, c.Depot = 7, 1, 1
	depotIs(t, "other settings", d, c, nodesOf(7, 1, 1, 0, 1)...)
}

// What a manifest says of the rows and what lies there, made to fit: the meta of another count.
func TestMetaThatCounts(t *testing.T) {
	d := storehouse(t)
	dir := "build-7/node-1"
	meta := resealed(strings.Replace(bytesOf(t, d, dir+"/meta"), "rows 1", "rows 2", 1))
	rewrite(t, d, dir+"/meta", meta)
	refit(t, d, dir)
	want := nodesOf(7, 1, 1, 0, 1)
	want[0], want[2] = f("build-7", isBroken, api.ErrContent, 7, 0), f("build-7/node-1", isBroken, api.ErrContent, 7, 0)
	depotIs(t, "another count", d, east(), want...)
}

// refit makes a directory's manifest fit the files that lie there.
func refit(t *testing.T, d *disk.Disk, dir string) {
	t.Helper()
	m, e := paper.ParseManifest(bytesOf(t, d, dir+"/manifest"))
	done(t, e)
	m.Total, m.Whole = 0, 0
	for i, r := range m.Files {
		m.Files[i] = row(r.Name, bytesOf(t, d, dir+"/"+r.Name))
		m.Total += m.Files[i].Size
		m.Whole, e = joined(m.Whole, m.Files[i])
		done(t, e)
	}
	text, e := paper.PrintManifest(m)
	done(t, e)
	rewrite(t, d, dir+"/manifest", text)
}

// Behind Drop and Clean.
func TestDropped(t *testing.T) {
	d := storehouse(t)
	done(t, builder.Drop(d, 7))
	depotIs(t, "behind Drop", d, east(), f("gone-7", isGone, 0, 7, 0))
	builds(t, d, east(), 8, single())
	put(t, d, "part-9/x/y", "")
	depotIs(t, "ahead of Clean", d, east(), append(nodesOf(8, 1, 1, 0, 1), f("gone-7", isGone, 0, 7, 0), f("part-9", isLeft, 0, 9, 0))...)
	done(t, builder.Clean(d))
	depotIs(t, "behind Clean", d, east(), append(nodesOf(8, 1, 1, 0, 1), f("gone-7", isGone, 0, 7, 0))...)
}
