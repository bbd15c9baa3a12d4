package ring

import (
	"slices"
	"strings"
	"testing"

	"granary/api"
)

// P6.1

func TestStoreNames(t *testing.T) {
	called := func(name string) api.Cluster {
		c := east()
		c.Store = name
		return c
	}
	for _, name := range []string{"a", "z", "east", "a-", "a0", "a9", "z-0-z", strings.Repeat("s", 40)} {
		checks(t, called(name), api.OK)
	}
	for _, name := range []string{"", "0", "-", "9a", "-a", "east ", " east", "a b", "a\n", "a.b", "a_b", "é", strings.Repeat("s", 41), strings.Repeat("s", 70000)} {
		allTell(t, called(name), api.ErrName)
	}
	for b := range 256 {
		letter := b >= 'a' && b <= 'z'
		first, later := api.ErrName, api.ErrName
		if letter {
			first = api.OK
		}
		if letter || b >= '0' && b <= '9' || b == '-' {
			later = api.OK
		}
		checks(t, called(string([]byte{byte(b)})), first)
		checks(t, called(string([]byte{byte(b), 'a'})), first)
		checks(t, called(string([]byte{'a', byte(b)})), later)
		checks(t, called(string([]byte{'a', byte(b), 'a'})), later)
	}
}

func TestEverySettingAtItsLimits(t *testing.T) {
	is(t, "settings", len(limits), 21)
	checks(t, wide(), api.OK)
	for _, s := range limits {
		checks(t, with(wide(), s.field, s.least), api.OK)
		checks(t, with(wide(), s.field, s.greatest), api.OK)
		for _, n := range []int{s.least - 1, s.greatest + 1, -1, leastInt, mostInt} {
			allTell(t, with(wide(), s.field, n), api.ErrSetting)
		}
	}
}

func TestPairsOfSettings(t *testing.T) {
	for _, pair := range [][2]string{{"Block", "Burst"}, {"Base", "Most"}} {
		low, high := pair[0], pair[1]
		for _, n := range []int{2, 64, 1023} {
			c := with(wide(), low, n)
			checks(t, with(c, high, n), api.OK)
			checks(t, with(c, high, n+1), api.OK)
			allTell(t, with(c, high, n-1), api.ErrSetting)
			allTell(t, with(c, high, 1), api.ErrSetting)
		}
	}
	c := wide()
	c.Block, c.Burst = 4096, 4095
	checks(t, c, api.ErrSetting)
	c.Burst = 4096
	checks(t, c, api.OK)
}

func TestNumberOfNodes(t *testing.T) {
	c := wide()
	for nodes, want := range map[int]api.Errno{1: api.OK, 2: api.OK, 15: api.OK, 16: api.OK, 17: api.ErrNodes, 40: api.ErrNodes} {
		c.Nodes = dealt(max(nodes, 16), nodes)
		checks(t, c, want)
	}
	c.Nodes = dealt(1, 16) // fifteen nodes have no partition
	checks(t, c, api.OK)
	c.Nodes = nil
	allTell(t, c, api.ErrNodes)
	c.Nodes = []api.NodeDef{}
	allTell(t, c, api.ErrNodes)
	c.Nodes = make([]api.NodeDef, 17)
	allTell(t, c, api.ErrNodes)
	c.Nodes = make([]api.NodeDef, 100000)
	allTell(t, c, api.ErrNodes)
}

func TestZones(t *testing.T) {
	for at := range 16 {
		for zone, want := range map[int]api.Errno{0: api.OK, 1: api.OK, 7: api.OK, 8: api.ErrNodes, -1: api.ErrNodes, mostInt: api.ErrNodes, leastInt: api.ErrNodes} {
			c := wide()
			c.Nodes[at].Zone = zone
			checks(t, c, want)
		}
	}
	c := wide()
	c.Nodes[15] = api.NodeDef{Zone: 8} // without partitions: that its zone is wrong is told first
	checks(t, c, api.ErrNodes)
}

func TestNumberOfPartitions(t *testing.T) {
	c := wide()
	for parts, want := range map[int]api.Errno{0: api.ErrParts, 1: api.OK, 2: api.OK, 63: api.OK, 64: api.OK, 65: api.ErrParts, 66: api.ErrParts, 5000: api.ErrParts} {
		for _, nodes := range []int{1, 2, 16} {
			c.Nodes = dealt(parts, nodes)
			checks(t, c, want)
		}
	}
	allTell(t, lists(wide(), nil), api.ErrParts)
	allTell(t, lists(wide(), []int{}, nil), api.ErrParts)
	allTell(t, lists(wide(), make([]int, 65)), api.ErrParts)
}

func TestListsOfPartitions(t *testing.T) {
	for _, good := range [][][]int{
		{{0}}, {{0, 1}}, {{0}, {1}}, {{1}, {0}}, {{0, 2}, {1}}, {{1}, {0, 2}}, {{1, 2}, {0}}, {nil, {0}, {}}, {{3}, {2}, {1}, {0}}, {{0, 1, 2, 3, 4}, {}, {5}},
	} {
		checks(t, lists(wide(), good...), api.OK)
	}
	for _, bad := range [][][]int{
		{{1}}, {{-1}}, {{mostInt}}, {{leastInt}}, // out of the range
		{{0, 2}}, {{0}, {2}}, {{1, 2}}, {{-1, 0}}, {{0, mostInt}}, {{leastInt, 0}}, {{0, 1}, {3}}, {{1}, {2}}, {{0}, {64}}, // one is lacking
		{{0, 0}}, {{0}, {0}}, {{0, 1}, {1}}, {{0, 1, 1}}, {{0, 1}, {0, 1}}, {{0, 1}, {0, 2}}, {{1, 1}}, {{0}, {1}, {0}}, // one is there twice
		{{1, 0}}, {{2, 0}, {1}}, {{0, 2, 1}}, {{0}, {2, 1}}, {{1}, {2, 0}}, {{3, 2, 1, 0}}, // not rising
	} {
		allTell(t, lists(wide(), bad...), api.ErrParts)
	}
	turned := dealt(64, 1)
	slices.Reverse(turned[0].Parts)
	checks(t, lists(wide(), turned[0].Parts), api.ErrParts)
}

func TestReplicasAndNodesWithPartitions(t *testing.T) {
	for nodes := range 17 {
		for empty := range 17 - nodes {
			c := wide()
			c.Nodes = append(make([]api.NodeDef, empty), dealt(nodes, nodes)...)
			if nodes == 0 {
				continue
			}
			checks(t, with(c, "Replicas", nodes), api.OK)
			if nodes < 16 {
				allTell(t, with(c, "Replicas", nodes+1), api.ErrCopies)
				checks(t, with(c, "Replicas", 16), api.ErrCopies)
			}
		}
	}
}

func TestNumberOfFiles(t *testing.T) {
	for _, x := range []struct {
		parts, replicas, chunks int
		want                    api.Errno
	}{
		{64, 1, 8, api.OK}, {64, 8, 1, api.OK}, {64, 2, 4, api.OK}, {32, 16, 1, api.OK}, {32, 1, 16, api.OK}, {16, 2, 16, api.OK}, {16, 16, 2, api.OK}, // 512
		{57, 9, 1, api.ErrBig}, {57, 1, 9, api.ErrBig}, {57, 3, 3, api.ErrBig}, // 513
		{64, 1, 9, api.ErrBig}, {64, 9, 1, api.ErrBig}, {33, 1, 16, api.ErrBig}, {33, 16, 1, api.ErrBig}, {17, 2, 16, api.ErrBig}, {64, 16, 16, api.ErrBig},
		{73, 7, 1, api.ErrParts}, // 511, but too many partitions
		{63, 8, 1, api.OK}, {51, 2, 5, api.OK},
	} {
		c := wide()
		c.Replicas, c.Chunks, c.Nodes = x.replicas, x.chunks, dealt(x.parts, 16)
		checks(t, c, x.want)
		if x.want == api.ErrBig {
			allTell(t, c, api.ErrBig)
		}
	}
}

// From all faults at once on, the first of them is mended each time.
func TestOrderOfFaults(t *testing.T) {
	c := wide()
	c.Store, c.Width, c.Replicas, c.Chunks = "East", 0, 16, 16
	c.Nodes = dealt(33, 15)
	c.Nodes[3].Zone = 8
	c.Nodes[4].Parts = []int{19, 4}
	allTell(t, c, api.ErrName)
	c.Store = "east"
	allTell(t, c, api.ErrSetting)
	c.Width = 1
	allTell(t, c, api.ErrNodes)
	c.Nodes[3].Zone = 7
	allTell(t, c, api.ErrParts)
	c.Nodes[4].Parts = []int{4, 19}
	allTell(t, c, api.ErrCopies)
	c.Replicas = 15
	allTell(t, c, api.ErrBig)
	c.Chunks = 1
	checks(t, c, api.OK)
}

// The pairs that stand next to one another in P6.1's list, where the one must not hide the other.
func TestNeighboursInTheOrder(t *testing.T) {
	c := wide()
	c.Burst, c.Block, c.Nodes = 1, 2, nil
	checks(t, c, api.ErrSetting)
	c = lists(wide(), make([]int, 100))
	c.Nodes[0].Zone = -1
	checks(t, c, api.ErrNodes)
	checks(t, lists(with(wide(), "Replicas", 2), []int{1}), api.ErrParts)
	c = lists(with(wide(), "Replicas", 2), dealt(64, 1)[0].Parts)
	c.Chunks = 16
	checks(t, c, api.ErrCopies)
	checks(t, api.Cluster{}, api.ErrName)
	checks(t, api.Cluster{Store: "a"}, api.ErrSetting)
}
