package rebalance

import (
	"granary/api"
	"granary/digest"
	"granary/paper"
	"granary/plain"
	"granary/ring"
)

// cargo is what is carried to a node.
type cargo struct {
	change
	version, node int
	slots         []api.Slot // that the node holds by next
	read          map[api.Slot]goods
}

// goods are a partition, as it was read.
type goods struct {
	from   giver
	chunks []api.Chunk
	pairs  int
}

// bytes are those of one of its files.
func (g goods) bytes(f api.File) string {
	if f.Data {
		return g.chunks[f.Chunk].Data
	}
	return g.chunks[f.Chunk].Index
}

// file is one that is to be written.
type file struct{ name, text string }

// order asks for all that refuses a carrying ahead of any disk. It is given how many disks there are.
func order(was, next api.Cluster, version, node, disks int) (cargo, api.Errno) {
	both, e := compare(was, next)
	if e != api.OK {
		return cargo{}, e
	}
	if !plain.IsVersion(version) {
		return cargo{}, api.ErrVersion
	}
	slots, e := ring.Holds(next, node)
	if e != api.OK {
		return cargo{}, e
	}
	if disks != len(was.Nodes) {
		return cargo{}, api.ErrArg
	}
	return cargo{both, version, node, slots, map[api.Slot]goods{}}, api.OK
}

// load reads, for each slot, what its source has.
func (c cargo) load(s stock) api.Errno {
next:
	for _, slot := range c.slots {
		for _, from := range c.givers(slot.Part, c.node) {
			if g, whole := s.take(from, slot.Part); whole {
				c.read[slot] = g
				continue next
			}
		}
		return api.ErrMissing
	}
	return api.OK
}

// files are those that belong to the node, by rising names, but that the manifest is the last.
func (c cargo) files() []file {
	names, _ := ring.Files(c.next, c.node) // next is valid, and has that node
	var list []file
	for _, name := range names {
		f, _ := ring.ReadName(name)
		list = append(list, file{name, c.read[api.Slot{Part: f.Part, Replica: f.Replica}].bytes(f)})
	}
	text, _ := paper.PrintMeta(plain.MetaOf(c.next, c.version, c.node, c.pairs())) // what fits a valid definition is printed
	list = append(list, file{plain.MetaName, text})                                // the names of the chunks' files begin with digits
	text, _ = paper.PrintManifest(plain.ManifestOf(c.next, c.version, c.node, rows(list)))
	return append(list, file{plain.ManifestName, text})
}

func (c cargo) pairs() int {
	sum := 0
	for _, slot := range c.slots {
		sum += c.read[slot].pairs
	}
	return sum
}

// rows are what a manifest says of files.
func rows(files []file) []api.FileRow {
	var list []api.FileRow
	for _, f := range files {
		list = append(list, api.FileRow{Name: f.name, Size: len(f.text), Crc: digest.CRC(f.text), Md5: digest.MD5(f.text)})
	}
	return list
}

// tell is what the carrying of these files answers.
func (c cargo) tell(files []file) api.Carried {
	told := api.Carried{Slots: len(c.slots), Files: len(files)}
	for _, slot := range c.slots {
		if c.read[slot].from.node == c.node {
			told.Local++
		}
	}
	for _, f := range files {
		told.Bytes += len(f.text)
	}
	return told
}
