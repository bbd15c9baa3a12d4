package shelf

import (
	"slices"

	"granary/api"
	"granary/digest"
	"granary/paper"
	"granary/plain"
	"granary/record"
	"granary/ring"
)

// files is the directory's files but the manifest, by rising names.
type files struct {
	names, texts []string
}

func (f files) text(name string) string {
	i, found := slices.BinarySearch(f.names, name)
	if !found {
		return ""
	}
	return f.texts[i]
}

// examine holds the directory against what belongs there, in the order in which faults are told, and counts its pairs. It is given the names of the node's chunk files.
func (s *Shelf) examine(names []string) (int, api.Errno) {
	names = append(names, plain.MetaName)
	slices.Sort(names)
	if e := s.lists(names); e != api.OK {
		return 0, e
	}
	rows, e := s.rows(names)
	if e != api.OK {
		return 0, e
	}
	all, e := s.readAll(names)
	if e != api.OK {
		return 0, e
	}
	if !whole(rows, all.texts) {
		return 0, api.ErrDamage
	}
	wanted, e := s.wanted(all.text(plain.MetaName))
	if e != api.OK {
		return 0, e
	}
	count, good := s.counts(all)
	if !good || count != wanted {
		return 0, api.ErrContent
	}
	return count, api.OK
}

// lists tells whether the directory has the manifest and files of these names, and nothing else.
func (s *Shelf) lists(names []string) api.Errno {
	list, e := s.disk.List(s.dir)
	if e != api.OK {
		return e
	}
	belong := 0
	for _, x := range list {
		_, found := slices.BinarySearch(names, x.Name)
		if x.Kind == api.IsFile && (found || x.Name == plain.ManifestName) {
			belong++
		}
	}
	if belong < len(names)+1 {
		return api.ErrMissing
	}
	if belong < len(list) {
		return api.ErrExtra
	}
	return api.OK
}

// rows is what the manifest tells of the files, which must be just those of these names.
func (s *Shelf) rows(names []string) ([]api.FileRow, api.Errno) {
	text, e := s.read(plain.ManifestName)
	if e != api.OK {
		return nil, e
	}
	m, e := paper.ParseManifest(text)
	if e != api.OK {
		return nil, e
	}
	named := func(row api.FileRow, name string) bool { return row.Name == name }
	if m.Store != s.cluster.Store || m.Version != s.version || m.Node != s.node || !slices.EqualFunc(m.Files, names, named) {
		return nil, api.ErrOther
	}
	return m.Files, api.OK
}

func (s *Shelf) readAll(names []string) (files, api.Errno) {
	all := files{names: names}
	for _, name := range names {
		text, e := s.read(name)
		if e != api.OK {
			return files{}, e
		}
		all.texts = append(all.texts, text)
	}
	return all, api.OK
}

// whole tells whether each file is what its row says.
func whole(rows []api.FileRow, texts []string) bool {
	fits := together(len(rows), func(i int) bool {
		row, text := rows[i], texts[i]
		return row.Size == len(text) && row.Crc == digest.CRC(text) && row.Md5 == digest.MD5(text)
	})
	return !slices.Contains(fits, false)
}

// wanted is how many pairs there are by the meta file, which must be of this version, node and cluster.
func (s *Shelf) wanted(text string) (int, api.Errno) {
	m, e := paper.ParseMeta(text)
	if e != api.OK {
		return 0, e
	}
	if m != plain.MetaOf(s.cluster, s.version, s.node, m.Rows) {
		return 0, api.ErrOther
	}
	return m.Rows, api.OK
}

// looked is what came of looking through a chunk.
type looked struct {
	pairs int
	good  bool
}

// counts is the number of all pairs, and whether all of them lie where they belong.
func (s *Shelf) counts(all files) (int, bool) {
	chunks := s.chunks()
	list := together(len(chunks), func(i int) looked {
		index, data := namesOf(chunks[i])
		return s.look(chunks[i], api.Chunk{Index: all.text(index), Data: all.text(data)})
	})
	sum := 0
	for _, x := range list {
		if !x.good {
			return 0, false
		}
		sum += x.pairs
	}
	return sum, true
}

// look goes through a chunk's bytes.
func (s *Shelf) look(at api.File, c api.Chunk) looked {
	groups, e := record.Decode(s.cluster.Width, c)
	if e != api.OK {
		return looked{}
	}
	pairs := 0
	for _, g := range groups {
		own := api.Place{Part: at.Part, Chunk: at.Chunk, Hash: g.Hash}
		for _, p := range g.Pairs {
			if place, e := ring.Locate(s.cluster, p.Key); e != api.OK || place != own {
				return looked{}
			}
		}
		pairs += len(g.Pairs)
	}
	return looked{pairs, true}
}
