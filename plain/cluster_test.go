package plain

import (
	"reflect"
	"testing"

	"granary/api"
)

func TestParts(t *testing.T) {
	for want, nodes := range [][]api.NodeDef{nil, {{}, {Parts: []int{0}}}, {{Parts: []int{1}}, {}, {Parts: []int{0}}}, {{Parts: []int{0, 1, 2}}}} {
		if got := Parts(api.Cluster{Nodes: nodes}); got != want {
			t.Errorf("Parts of %v = %d", nodes, got)
		}
	}
}

func TestCopyOf(t *testing.T) {
	given := func() api.Cluster {
		return api.Cluster{Store: "east", Home: 3, Nodes: []api.NodeDef{{Zone: 1, Parts: []int{0, 2}}, {}, {Parts: []int{1}}}}
	}
	c := given()
	own := CopyOf(c)
	if !reflect.DeepEqual(own, given()) {
		t.Errorf("CopyOf = %+v", own)
	}
	c.Nodes[0].Parts[1], c.Nodes[2].Zone = 9, 9
	if !reflect.DeepEqual(own, given()) {
		t.Errorf("behind another's writing: %+v", own)
	}
	own.Nodes[2].Parts[0], own.Nodes[0].Zone = 8, 8
	if c.Nodes[2].Parts[0] != 1 || c.Nodes[0].Zone != 1 {
		t.Errorf("the one that was copied: %+v", c)
	}
}
