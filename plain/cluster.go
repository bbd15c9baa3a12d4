package plain

import (
	"slices"
	"strings"

	"granary/api"
)

// Parts is how many partitions a cluster has.
func Parts(c api.Cluster) int {
	sum := 0
	for _, node := range c.Nodes {
		sum += len(node.Parts)
	}
	return sum
}

// CopyOf is a cluster that shares no list with another: its holder may do with those as he likes.
func CopyOf(c api.Cluster) api.Cluster {
	c.Store = strings.Clone(c.Store)
	c.Nodes = slices.Clone(c.Nodes)
	for i := range c.Nodes {
		c.Nodes[i].Parts = slices.Clone(c.Nodes[i].Parts)
	}
	return c
}
