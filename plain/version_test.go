package plain

import (
	"testing"

	"granary/api"
)

func TestIsVersion(t *testing.T) {
	for n, want := range map[int]bool{-1 << 63: false, -1: false, 0: false, 1: true, 999999: true, 1000000: false, 1<<63 - 1: false} {
		if IsVersion(n) != want {
			t.Errorf("IsVersion(%d) = %v", n, !want)
		}
	}
}

func TestParts(t *testing.T) {
	for want, nodes := range [][]api.NodeDef{nil, {{}, {Parts: []int{0}}}, {{Parts: []int{1}}, {}, {Parts: []int{0}}}, {{Parts: []int{0, 1, 2}}}} {
		if got := Parts(api.Cluster{Nodes: nodes}); got != want {
			t.Errorf("Parts of %v = %d", nodes, got)
		}
	}
}
