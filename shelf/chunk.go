package shelf

import (
	"slices"

	"granary/api"
	"granary/plain"
	"granary/record"
	"granary/ring"
)

// A chunk of the node is told by the File of its index.

// holding is the first chunk of a partition that the node holds.
func (s *Shelf) holding(part int) (api.File, api.Errno) {
	owners, e := ring.Owners(s.cluster, part)
	if e != api.OK {
		return api.File{}, e
	}
	replica := slices.Index(owners, s.node)
	if replica < 0 {
		return api.File{}, api.ErrForeign
	}
	return api.File{Part: part, Replica: replica}, api.OK
}

// chunks is all chunks of the node, by rising partition, then by rising number.
func (s *Shelf) chunks() []api.File {
	slots, _ := ring.Holds(s.cluster, s.node) // Open has found that the cluster has the node
	var list []api.File
	for _, slot := range slots {
		for chunk := range s.cluster.Chunks {
			list = append(list, api.File{Part: slot.Part, Replica: slot.Replica, Chunk: chunk})
		}
	}
	return list
}

// namesOf is the names of a chunk's two files.
func namesOf(chunk api.File) (index, data string) {
	index, _ = ring.FileName(chunk) // no chunk of a valid cluster is refused
	chunk.Data = true
	data, _ = ring.FileName(chunk)
	return index, data
}

// pairs reads all pairs of a chunk, by hash, then by key.
func (s *Shelf) pairs(chunk api.File) ([]api.Pair, api.Errno) {
	indexName, dataName := namesOf(chunk)
	index, e := s.read(indexName)
	if e != api.OK {
		return nil, e
	}
	data, e := s.read(dataName)
	if e != api.OK {
		return nil, e
	}
	groups, e := record.Decode(s.cluster.Width, api.Chunk{Index: index, Data: data})
	if e != api.OK {
		return nil, api.ErrContent // it was a chunk when the shelf was opened
	}
	var pairs []api.Pair
	for _, g := range groups {
		pairs = append(pairs, g.Pairs...)
	}
	return pairs, api.OK
}

// read is all bytes of a file, by one Read.
func (s *Shelf) read(name string) (string, api.Errno) {
	return s.disk.Read(s.path(name), 0, api.MaxDisk)
}

// path is where a file of the directory lies.
func (s *Shelf) path(name string) string { return plain.Under(s.dir, name) }
