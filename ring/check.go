package ring

import (
	"slices"

	"granary/api"
	"granary/plain"
)

const (
	greatestZone = 7
	nobody       = -1 // stands for a node where a partition has none yet
)

// Check tells whether a definition is valid.
func Check(c api.Cluster) api.Errno {
	_, errno := nodesOf(c)
	return errno
}

// nodesOf is, for each partition of a definition that is valid, the node to which it belongs. All calls ask it first, so that what they go by cannot be other than what was checked.
func nodesOf(c api.Cluster) ([]int, api.Errno) {
	switch {
	case !plain.IsStore(c.Store):
		return nil, api.ErrName
	case !settingsFit(c):
		return nil, api.ErrSetting
	case !nodesFit(c.Nodes):
		return nil, api.ErrNodes
	}
	nodes, ok := spread(c.Nodes)
	switch {
	case !ok:
		return nil, api.ErrParts
	case c.Replicas > keeping(c.Nodes):
		return nil, api.ErrCopies
	case len(nodes)*c.Replicas*c.Chunks > api.MaxFiles:
		return nil, api.ErrBig
	}
	return nodes, api.OK
}

func settingsFit(c api.Cluster) bool {
	for _, s := range settings(&c) {
		if *s.field < s.least || *s.field > s.greatest {
			return false
		}
	}
	return c.Burst >= c.Block && c.Most >= c.Base
}

func nodesFit(nodes []api.NodeDef) bool {
	if len(nodes) < 1 || len(nodes) > api.MaxNodes {
		return false
	}
	for _, n := range nodes {
		if n.Zone < 0 || n.Zone > greatestZone {
			return false
		}
	}
	return true
}

// spread lays the nodes' lists out by partitions. As many partitions as there are, none of them twice and none out of its range: that is each of them once.
func spread(nodes []api.NodeDef) ([]int, bool) {
	count := 0
	for _, n := range nodes {
		count += len(n.Parts)
	}
	if count < 1 || count > api.MaxParts {
		return nil, false
	}
	out := slices.Repeat([]int{nobody}, count)
	for node, n := range nodes {
		last := -1
		for _, part := range n.Parts {
			if part <= last || part >= count || out[part] != nobody {
				return nil, false
			}
			out[part] = node
			last = part
		}
	}
	return out, true
}

// keeping is the number of nodes that have a partition.
func keeping(nodes []api.NodeDef) int {
	count := 0
	for _, n := range nodes {
		if len(n.Parts) > 0 {
			count++
		}
	}
	return count
}
