package inspect

import (
	"fmt"
	"slices"
	"strings"
	"testing"

	"granary/api"
	"granary/disk"
)

// P22.1: whose memory is whose; hard arguments.

// junk is a finding that nobody makes.
var junk = api.Finding{Path: "junk", Kind: -7, Code: -7, Version: -7, Count: -7}

// Whoever gets a list may write into it and append to it: nothing else is changed by that.
func TestListsAreNew(t *testing.T) {
	d := full(t)
	for name, l := range looks(d, east(), 1) {
		want, e := l()
		done(t, e)
		want = slices.Clone(want)
		lists := make([][]api.Finding, 4)
		for i := range lists {
			lists[i], e = l()
			done(t, e)
		}
		calm(t, name, d, func() {
			for i, list := range lists {
				scribble(list, junk)
				for _, other := range lists[i+1:] {
					same(t, name+": another list", other, want)
				}
				finds(t, name+" behind scribbling", d, l, want...)
			}
		})
	}
	list, _ := Store(d, east(), 1)
	was := slices.Clone(list)
	for range 3 {
		is(t, "Verdict", Verdict(list), isBroken)
	}
	same(t, "a list that is handed in", list, was)
	spare := append(make([]api.Finding, 0, 9), junk)
	is(t, "Verdict", Verdict(spare), 0)
	same(t, "its spare room", spare[:9][1:], make([]api.Finding, 8))
}

// kept is a cluster whose lists have spare room, and a text of all that lies in their memory.
func withRoom() (api.Cluster, func() string) {
	c := east()
	for i := range c.Nodes {
		c.Nodes[i].Parts = append(make([]int, 0, 9), c.Nodes[i].Parts...)
		for k := len(c.Nodes[i].Parts); k < 9; k++ {
			c.Nodes[i].Parts[:9][k] = -99
		}
	}
	nodes := append(make([]api.NodeDef, 0, 9), c.Nodes...)
	for k := len(nodes); k < 9; k++ {
		nodes[:9][k].Zone = -99
	}
	c.Nodes = nodes
	return c, func() string {
		var text strings.Builder
		fmt.Fprintf(&text, "%+v", c.Nodes[:9])
		for _, node := range c.Nodes {
			fmt.Fprintf(&text, " %v", node.Parts[:9])
		}
		return text.String()
	}
}

func TestClustersAreNotChanged(t *testing.T) {
	c, all := withRoom()
	was := all()
	for _, d := range []*disk.Disk{fresh(t), full(t), storehouse(t), laid(t, "store/fetch-7/"), laid(t, "build-7/")} {
		for range 2 {
			for name, l := range looks(d, c, 1) {
				l()
				is(t, name+": the cluster's memory", all(), was)
			}
		}
	}
	c.Width = 0
	was = all()
	for name, l := range looks(full(t), c, 1) {
		l()
		is(t, name+": a wrong cluster's memory", all(), was)
	}
}

// The same disk, the same answer; and two disks have nothing in common.
func TestSameDisksSameAnswers(t *testing.T) {
	one, two, empty := full(t), full(t), fresh(t)
	for range 3 {
		for name, l := range looks(one, east(), 1) {
			want, e := l()
			done(t, e)
			finds(t, name, two, looks(two, east(), 1)[name], want...)
			finds(t, name, empty, looks(empty, east(), 1)[name])
			finds(t, name, copied(t, one), looks(copied(t, one), east(), 1)[name], want...)
		}
	}
}

// What is no definition, no node, no version: every call ends.
func TestHardArguments(t *testing.T) {
	clusters := []api.Cluster{{}, {Store: strings.Repeat("s", 1000)}, {Nodes: make([]api.NodeDef, 1000)}, east(), small(), pair()}
	for _, n := range []int{leastInt, -1, mostInt} {
		c := settings("east", n, n, n, api.NodeDef{Zone: n, Parts: []int{n}})
		clusters = append(clusters, c)
		c = east()
		c.Nodes[1].Parts = []int{n}
		clusters = append(clusters, c)
		c = east()
		c.Quota = n
		clusters = append(clusters, c)
	}
	long := strings.Repeat("x", 40)
	for _, d := range []*disk.Disk{nil, {}, fresh(t), full(t),
		laid(t, long+"/"+long+"/"+long+"/"+long+"/"+long+"/"+long+"/"+long+"/"+long),
		laid(t, "store/fetch-1/manifest=\x00\xff", "store/version-1/manifest=\x00\xff", "store/latest=\x00\xff", "build-1/node-0/manifest=\x00\xff", "job=\x00\xff"),
		laid(t, "store/fetch-1/manifest/", "store/fetch-2/journal/", "store/version-1/manifest/", "build-1/node-0/manifest/"),
		laid(t, "store/store/store/store/store/store/store/store=x", "build-1/build-1/build-1/"),
	} {
		for _, c := range clusters {
			for _, node := range []int{leastInt, -1, 0, 1, 2, 15, 16, mostInt} {
				for name, l := range looks(d, c, node) {
					list, e := l()
					if e != api.OK && len(list) > 0 {
						t.Errorf("%s: %v beside the error %d", name, list, e)
					}
				}
			}
		}
	}
	for _, kind := range []int{leastInt, -1, 0, 1, mostInt} {
		is(t, "Verdict", Verdict([]api.Finding{{Kind: kind, Code: api.Errno(leastInt), Version: leastInt, Count: mostInt}}), max(0, kind))
	}
}
