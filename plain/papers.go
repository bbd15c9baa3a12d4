package plain

import (
	"granary/api"
	"granary/digest"
)

// MetaOf is what a version's directory on a node of the cluster says of itself, if it has so many pairs.
func MetaOf(c api.Cluster, version, node, pairs int) api.Meta {
	return api.Meta{
		Store:    c.Store,
		Version:  version,
		Node:     node,
		Parts:    Parts(c),
		Replicas: c.Replicas,
		Width:    c.Width,
		Chunks:   c.Chunks,
		Rows:     pairs,
	}
}

// ManifestOf lists the files of such a directory, which must be those of real bytes.
func ManifestOf(c api.Cluster, version, node int, files []api.FileRow) api.Manifest {
	m := api.Manifest{Store: c.Store, Version: version, Node: node, Files: files}
	for _, f := range files {
		m.Total += f.Size
		m.Whole, _ = digest.CRCJoin(m.Whole, f.Crc, f.Size) // it takes the sum and the size of any bytes
	}
	return m
}
