package inspect

import (
	"slices"

	"granary/api"
	"granary/disk"
	"granary/plain"
	"granary/ring"
	"granary/shelf"
)

// depot is the build repository's disk, with whom it builds for.
type depot struct {
	disk    *disk.Disk
	cluster api.Cluster
}

// build looks at a version that was built: at each node's directory, at what else is there, and whether all of it is one dataset.
func (p depot) build(f api.Finding, e entry) []api.Finding {
	if !e.isDir {
		return only(broken(f, api.ErrKind))
	}
	nodes, shelves := p.nodes(f)
	found := append(nodes, p.others(e)...)
	return append(found, p.whole(f, nodes, shelves))
}

// nodes looks at the directory of each node, whether it is there or not.
func (p depot) nodes(build api.Finding) ([]api.Finding, []*shelf.Shelf) {
	found := make([]api.Finding, len(p.cluster.Nodes))
	shelves := make([]*shelf.Shelf, len(found))
	for node := range found {
		f := api.Finding{Path: disk.Path(build.Path, plain.NodeName(node)), Kind: build.Kind, Version: build.Version}
		s, why := shelf.Open(p.disk, f.Path, p.cluster, node, f.Version)
		if why != api.OK {
			f = broken(f, why)
		}
		f.Count = s.Count() // no shelf has no pairs
		found[node], shelves[node] = f, s
	}
	return found, shelves
}

// others is what a version's directory has beside those of the nodes.
func (p depot) others(build entry) []api.Finding {
	var found []api.Finding
	for e := range entries(p.disk, build.path) {
		if !p.isNode(e.name) {
			found = append(found, foreign(e))
		}
	}
	return found
}

func (p depot) isNode(name string) bool {
	for node := range p.cluster.Nodes {
		if name == plain.NodeName(node) {
			return true
		}
	}
	return false
}

// whole is what the nodes' directories together say of a version.
func (p depot) whole(f api.Finding, nodes []api.Finding, shelves []*shelf.Shelf) api.Finding {
	for _, node := range nodes {
		if node.Kind == api.FindBroken {
			return broken(f, node.Code)
		}
	}
	keys, alike := p.keys(shelves)
	if !alike {
		return broken(f, api.ErrContent)
	}
	f.Count = keys
	return f
}

// keys is how many keys a version has, and whether all replicas of each partition have the same pairs.
func (p depot) keys(shelves []*shelf.Shelf) (int, bool) {
	sum := 0
	for part := range plain.Parts(p.cluster) {
		pairs, alike := p.replicas(part, shelves)
		if !alike {
			return 0, false
		}
		sum += len(pairs)
	}
	return sum, true
}

// replicas is the pairs of a partition, and whether all its replicas have the same.
func (p depot) replicas(part int, shelves []*shelf.Shelf) ([]api.Pair, bool) {
	owners, _ := ring.Owners(p.cluster, part) // the cluster is valid, and has that partition
	var pairs []api.Pair
	for replica, node := range owners {
		own, e := shelves[node].Scan(part)
		if e != api.OK || replica > 0 && !slices.Equal(own, pairs) {
			return nil, false
		}
		pairs = own
	}
	return pairs, true
}
