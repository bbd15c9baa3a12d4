package plain

import (
	"reflect"
	"slices"
	"testing"

	"granary/api"
)

func TestParts(t *testing.T) {
	for want, nodes := range [][]api.NodeDef{nil, {{}, {Parts: []int{0}}}, {{Parts: []int{1}}, {}, {Parts: []int{0}}}, {{Parts: []int{0, 1, 2}}}} {
		if got := Parts(api.Cluster{Nodes: nodes}); got != want {
			t.Errorf("Parts of %v = %d", nodes, got)
		}
	}
}

func TestCopyOf(t *testing.T) {
	given := func() api.Cluster {
		return api.Cluster{Store: "east", Home: 3, Nodes: []api.NodeDef{{Zone: 1, Parts: []int{0, 2}}, {}, {Parts: []int{1}}}}
	}
	c := given()
	own := CopyOf(c)
	if !reflect.DeepEqual(own, given()) {
		t.Errorf("CopyOf = %+v", own)
	}
	c.Nodes[0].Parts[1], c.Nodes[2].Zone = 9, 9
	if !reflect.DeepEqual(own, given()) {
		t.Errorf("behind another's writing: %+v", own)
	}
	own.Nodes[2].Parts[0], own.Nodes[0].Zone = 8, 8
	if c.Nodes[2].Parts[0] != 1 || c.Nodes[0].Zone != 1 {
		t.Errorf("the one that was copied: %+v", c)
	}
}

func TestHomeFirst(t *testing.T) {
	c := api.Cluster{Home: 3, Nodes: []api.NodeDef{{Zone: 3}, {Zone: 1}, {Zone: 3}, {Zone: 0}, {Zone: 3}}}
	for _, x := range []struct{ nodes, want []int }{
		{nil, nil},
		{[]int{1}, []int{1}},
		{[]int{2}, []int{2}},
		{[]int{1, 2}, []int{2, 1}},
		{[]int{4, 1}, []int{4, 1}},
		{[]int{3, 1}, []int{3, 1}},
		{[]int{4, 0, 2}, []int{4, 0, 2}},
		{[]int{3, 4, 1, 0, 2}, []int{4, 0, 2, 3, 1}},
		{[]int{0, 1, 2, 3, 4}, []int{0, 2, 4, 1, 3}},
	} {
		given := slices.Clone(x.nodes)
		if got := HomeFirst(c, given); !slices.Equal(got, x.want) || !slices.Equal(given, x.nodes) {
			t.Errorf("HomeFirst of %v = %v, of what is %v now", x.nodes, got, given)
		}
	}
}
