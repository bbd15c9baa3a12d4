package ring

import (
	"crypto/md5"
	"slices"
	"strings"
	"testing"

	"granary/api"
)

// P6.4, P6.5

func TestWalkRoundTheRing(t *testing.T) {
	c := lists(with(wide(), "Replicas", 3), []int{0, 1, 2, 5}, []int{3}, nil, []int{4})
	for part, want := range [][]int{{0, 3, 4}, {1, 3, 4}, {2, 3, 4}, {3, 4, 5}, {4, 5, 3}, {5, 3, 4}} {
		walks(t, c, part, api.OK, want...)
	}
	for part, want := range [][]int{{0, 1, 3}, {0, 1, 3}, {0, 1, 3}, {1, 3, 0}, {3, 0, 1}, {0, 1, 3}} {
		owns(t, c, part, api.OK, want...)
	}
	c.Replicas = 1
	for part, node := range []int{0, 0, 0, 1, 3, 0} {
		walks(t, c, part, api.OK, part)
		owns(t, c, part, api.OK, node)
	}
}

func TestOneNodeAlone(t *testing.T) {
	c := lists(wide(), dealt(64, 1)[0].Parts)
	for part := range 64 {
		walks(t, c, part, api.OK, part)
		owns(t, c, part, api.OK, 0)
	}
	walks(t, c, 64, api.ErrPart)
	walks(t, lists(wide(), []int{0}), 0, api.OK, 0)
	walks(t, lists(wide(), []int{0}), 1, api.ErrPart)
	owns(t, lists(wide(), nil, []int{0}), 0, api.OK, 1)
}

func TestWalkThroughAllNodes(t *testing.T) {
	c := with(wide(), "Replicas", 16)
	for part := range 16 {
		var want []int
		for i := range 16 {
			want = append(want, (part+i)%16)
		}
		walks(t, c, part, api.OK, want...)
		owns(t, c, part, api.OK, want...)
	}
}

// Zones do not count.
func TestWalkWhateverTheZones(t *testing.T) {
	for zone := range 8 {
		c := east()
		for i := range c.Nodes {
			c.Nodes[i].Zone = zone * i % 8
		}
		c.Home = zone
		walks(t, c, 1, api.OK, 1, 2)
		owns(t, c, 3, api.OK, 2, 0)
	}
}

func TestNoSuchPartition(t *testing.T) {
	for _, part := range []int{-1, 4, 5, 64, leastInt, mostInt} {
		walks(t, east(), part, api.ErrPart)
		owns(t, east(), part, api.ErrPart)
	}
}

// P6.6

func TestLocate(t *testing.T) {
	c := east()
	c.Width, c.Chunks = 16, 7
	c.Nodes[2].Parts = []int{3, 4}
	sum := "\x90\x01\x50\x98\x3c\xd2\x4f\xb0\xd6\x96\x3f\x7d\x28\xe1\x7f\x72"
	locates(t, c, "abc", api.Place{Part: 2416005272 % 5, Chunk: 1020415920 % 7, Hash: sum}, api.OK)
	for width := 1; width <= 16; width++ {
		c.Width = width
		locates(t, c, "abc", api.Place{Part: 2, Chunk: 6, Hash: sum[16-width:]}, api.OK)
	}
	locates(t, wide(), "abc", api.Place{Part: 8, Chunk: 0, Hash: "r"}, api.OK)
	locates(t, lists(wide(), []int{0}), "abc", api.Place{Hash: "r"}, api.OK)
}

func TestKeys(t *testing.T) {
	c := with(with(wide(), "Width", 16), "Chunks", 16)
	for _, n := range []int{1, 2, 55, 56, 63, 64, 65, 119, 120, 254, 255} {
		for _, letter := range []string{"k", "\x00", "\xff", "\n"} {
			key := strings.Repeat(letter, n)
			sum := md5.Sum([]byte(key))
			locates(t, c, key, api.Place{Part: int(sum[3]) % 16, Chunk: int(sum[7]) % 16, Hash: string(sum[:])}, api.OK)
		}
	}
	for _, n := range []int{0, 256, 257, 70000} {
		locates(t, c, strings.Repeat("k", n), api.Place{}, api.ErrKey)
	}
}

// P6.7

func TestHolds(t *testing.T) {
	c := lists(with(wide(), "Replicas", 3), []int{0, 1, 2, 5}, []int{3}, nil, []int{4})
	slots := func(replicas ...int) (out []api.Slot) {
		for part, r := range replicas {
			out = append(out, api.Slot{Part: part, Replica: r})
		}
		return out
	}
	holds(t, c, 0, api.OK, slots(0, 0, 0, 2, 1, 0)...)
	holds(t, c, 1, api.OK, slots(1, 1, 1, 0, 2, 1)...)
	holds(t, c, 2, api.OK)
	holds(t, c, 3, api.OK, slots(2, 2, 2, 1, 0, 2)...)
	c.Replicas = 2
	holds(t, c, 3, api.OK, api.Slot{Part: 3, Replica: 1}, api.Slot{Part: 4, Replica: 0})
	for _, node := range []int{-1, 4, 15, 16, leastInt, mostInt} {
		holds(t, c, node, api.ErrNode)
		has(t, c, node, api.ErrNode)
	}
}

func TestNodesWithoutPartitions(t *testing.T) {
	c := wide()
	c.Nodes = append(make([]api.NodeDef, 15), api.NodeDef{Parts: []int{0}})
	for node := range 15 {
		holds(t, c, node, api.OK)
		has(t, c, node, api.OK)
	}
	holds(t, c, 15, api.OK, api.Slot{})
	has(t, c, 15, api.OK, "0_0_0.data", "0_0_0.index")
	holds(t, c, 16, api.ErrNode)
}

// P6.10 and the rules: what is handed in stays as it was, the memory behind a list too; what is answered is nobody else's.

// roomy is E with lists behind whose ends there is more memory, which marks its own lists.
func roomy() (api.Cluster, func() bool) {
	c := east()
	nodes := append(slices.Clone(c.Nodes), api.NodeDef{Zone: 55, Parts: []int{55}}, api.NodeDef{Zone: 56})
	behind := [][]int{{0, 2, 91, 92}, {1, 93, 94}, {3, 95}}
	for i, list := range behind {
		nodes[i].Parts = list[:len(c.Nodes[i].Parts)]
	}
	c.Nodes = nodes[:3]
	whole := func() bool {
		return nodes[3].Zone == 55 && slices.Equal(nodes[3].Parts, []int{55}) && nodes[4].Zone == 56 && nodes[4].Parts == nil &&
			slices.Equal(behind[0], []int{0, 2, 91, 92}) && slices.Equal(behind[1], []int{1, 93, 94}) && slices.Equal(behind[2], []int{3, 95})
	}
	return c, whole
}

func TestWhatIsHandedInStays(t *testing.T) {
	c, whole := roomy()
	for range 2 {
		checks(t, c, api.OK)
		prints(t, c, eastText, api.OK)
		walks(t, c, 2, api.OK, 2, 3)
		walks(t, c, 4, api.ErrPart)
		owns(t, c, 3, api.OK, 2, 0)
		locates(t, c, "abc", api.Place{Hash: "r"}, api.OK)
		holds(t, c, 1, api.OK, api.Slot{Part: 0, Replica: 1}, api.Slot{Part: 1, Replica: 0})
		has(t, c, 1, api.OK, "0_1_0.data", "0_1_0.index", "0_1_1.data", "0_1_1.index", "1_0_0.data", "1_0_0.index", "1_0_1.data", "1_0_1.index")
		is(t, "the cluster as it was", same(c, east()), true)
		is(t, "the memory behind it too", whole(), true)
	}
}

// spoil writes into a list, up to the end of its memory.
func spoil[T any](list []T, x T) {
	list = list[:cap(list)]
	for i := range list {
		list[i] = x
	}
}

func TestWhatIsAnsweredIsNewMemory(t *testing.T) {
	c, whole := roomy()
	for range 2 {
		parts, _ := Walk(c, 0)
		again, _ := Walk(c, 0)
		nodes, _ := Owners(c, 0)
		slots, _ := Holds(c, 0)
		names, _ := Files(c, 2)
		spoil(parts, 77)
		is(t, "another answer", slices.Equal(again, []int{0, 1}) && slices.Equal(nodes, []int{0, 1}), true)
		spoil(nodes, 77)
		spoil(slots, api.Slot{Part: 77})
		spoil(names, "x")
		is(t, "the cluster as it was", same(c, east()) && whole(), true)
		walks(t, c, 0, api.OK, 0, 1)
		owns(t, c, 0, api.OK, 0, 1)
		TestExample7(t)
		TestExample8(t)
	}
}

func TestListsOfOneAnswerShareNoMemory(t *testing.T) {
	text := eastText + "node 3 zone 0 parts\n"
	four := east()
	four.Nodes = append(four.Nodes, api.NodeDef{})
	for i := range four.Nodes {
		c, _, _ := Parse(text)
		other, _, _ := Parse(text)
		spoil(c.Nodes[i].Parts, 77)
		_ = append(c.Nodes[i].Parts, 78, 79)
		for j := range c.Nodes {
			is(t, "a list beside the one that is spoilt", j == i || slices.Equal(c.Nodes[j].Parts, four.Nodes[j].Parts), true)
		}
		spoil(c.Nodes, api.NodeDef{Zone: 77})
		is(t, "another answer", same(other, four), true)
	}
	reads(t, text, four)
}

// Lists that are nil and lists that are empty mean the same.
func TestNilAndEmptyLists(t *testing.T) {
	one, other := east(), east()
	one.Nodes = append(one.Nodes, api.NodeDef{})
	other.Nodes = append(other.Nodes, api.NodeDef{Parts: []int{}})
	for _, c := range []api.Cluster{one, other} {
		prints(t, c, eastText+"node 3 zone 0 parts\n", api.OK)
		walks(t, c, 3, api.OK, 3, 0)
		holds(t, c, 3, api.OK)
		has(t, c, 3, api.OK)
	}
}
