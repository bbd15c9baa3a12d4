package plain

import (
	"slices"
	"strings"

	"granary/api"
)

// Parts is how many partitions a cluster has.
func Parts(c api.Cluster) int {
	sum := 0
	for _, node := range c.Nodes {
		sum += len(node.Parts)
	}
	return sum
}

// CopyOf is a cluster that shares no list with another: its holder may do with those as he likes.
func CopyOf(c api.Cluster) api.Cluster {
	c.Store = strings.Clone(c.Store)
	c.Nodes = slices.Clone(c.Nodes)
	for i := range c.Nodes {
		c.Nodes[i].Parts = slices.Clone(c.Nodes[i].Parts)
	}
	return c
}

// HomeFirst is these nodes of a cluster, those in the clients' zone ahead of the others, else in the order in which they stand.
func HomeFirst(c api.Cluster, nodes []int) []int {
	var home, away []int
	for _, node := range nodes {
		if c.Nodes[node].Zone == c.Home {
			home = append(home, node)
		} else {
			away = append(away, node)
		}
	}
	return append(home, away...)
}
