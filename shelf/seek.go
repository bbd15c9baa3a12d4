package shelf

import (
	"granary/api"
	"granary/record"
)

const offsetBytes = 4 // of an entry, behind its hash

// entry is a line of an index.
type entry struct {
	hash   string
	offset int
}

// group reads the pairs of one hash in a chunk, and none of the others; none, if no key there has that hash.
func (s *Shelf) group(chunk api.File, hash string) ([]api.Pair, api.Errno) {
	index, data := namesOf(chunk)
	here, behind, e := s.seek(s.path(index), hash)
	if e != api.OK || here.hash != hash {
		return nil, e
	}
	text, e := s.disk.Read(s.path(data), here.offset, behind.offset-here.offset)
	if e != api.OK {
		return nil, e
	}
	pairs, _, e := record.ReadRecord(text, 0)
	if e != api.OK {
		return nil, api.ErrContent // it was a record when the shelf was opened
	}
	return pairs, api.OK
}

// seek halves an index till it has the last entry that is not above a hash, and the one behind that. Both have been read by then: where the record ends is known without one Read more.
func (s *Shelf) seek(path, hash string) (here, behind entry, e api.Errno) {
	size, e := s.disk.Size(path)
	if e != api.OK {
		return entry{}, entry{}, e
	}
	behind.offset = api.MaxData // behind the last entry: no chunk's data goes on further
	low, high := 0, size/s.entryBytes()
	for low < high {
		middle := (low + high) / 2
		x, e := s.entryAt(path, middle)
		if e != api.OK {
			return entry{}, entry{}, e
		}
		if x.hash <= hash {
			here, low = x, middle+1
		} else {
			behind, high = x, middle
		}
	}
	return here, behind, api.OK
}

// entryAt reads the entry number i of an index.
func (s *Shelf) entryAt(path string, i int) (entry, api.Errno) {
	text, e := s.disk.Read(path, i*s.entryBytes(), s.entryBytes())
	if e != api.OK {
		return entry{}, e
	}
	hash, offset, e := record.ReadEntry(s.cluster.Width, text, 0)
	return entry{hash, offset}, e
}

func (s *Shelf) entryBytes() int { return s.cluster.Width + offsetBytes }
