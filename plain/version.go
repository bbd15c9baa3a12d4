package plain

import "granary/api"

// The papers in a version's directory.
const (
	MetaName     = "meta"
	ManifestName = "manifest"
)

// IsVersion tells whether a version may have that number.
func IsVersion(n int) bool { return n >= 1 && n <= api.MaxVersion }

// Parts is how many partitions a cluster has.
func Parts(c api.Cluster) int {
	sum := 0
	for _, node := range c.Nodes {
		sum += len(node.Parts)
	}
	return sum
}
