package rebalance

import (
	"granary/api"
	"granary/disk"
	"granary/plain"
	"granary/ring"
	"granary/shelf"
)

// stock is what the nodes of was have of a version.
type stock struct {
	cluster api.Cluster
	version int
	disks   []*disk.Disk // by node
	dir     string
	shelves map[int]*shelf.Shelf // of the nodes that were asked; none, where one is not whole
}

func newStock(was api.Cluster, version int, disks []*disk.Disk, dir string) stock {
	return stock{was, version, disks, dir, map[int]*shelf.Shelf{}}
}

// shelf opens a node's directory, once: all of it is read then.
func (s stock) shelf(node int) *shelf.Shelf {
	own, asked := s.shelves[node]
	if !asked {
		own, _ = shelf.Open(s.disks[node], s.dir, s.cluster, node, s.version)
		s.shelves[node] = own
	}
	return own
}

// take reads all of a partition that a node has, if the node is whole.
func (s stock) take(from giver, part int) (goods, bool) {
	pairs, e := s.shelf(from.node).Scan(part) // no shelf answers an error too
	if e != api.OK {
		return goods{}, false
	}
	g := goods{from: from, pairs: len(pairs)}
	for number := range s.cluster.Chunks {
		chunk, e := s.chunk(from.node, api.File{Part: part, Replica: from.replica, Chunk: number})
		if e != api.OK {
			return goods{}, false
		}
		g.chunks = append(g.chunks, chunk)
	}
	return g, true
}

// chunk reads the two files of a node's chunk, which is told by its index.
func (s stock) chunk(node int, f api.File) (api.Chunk, api.Errno) {
	index, e := s.read(node, f)
	if e != api.OK {
		return api.Chunk{}, e
	}
	f.Data = true
	data, e := s.read(node, f)
	if e != api.OK {
		return api.Chunk{}, e
	}
	return api.Chunk{Index: index, Data: data}, api.OK
}

// read is all bytes of a file.
func (s stock) read(node int, f api.File) (string, api.Errno) {
	name, _ := ring.FileName(f) // the files of a valid definition have names
	return s.disks[node].Read(plain.Under(s.dir, name), 0, api.MaxDisk)
}
