package record

import "granary/api"

const offsetBytes = 4

// entry is a line of an index.
type entry struct {
	hash   string
	offset int
}

// Entry is an index entry: a hash and a place in the data.
func Entry(width int, hash string, offset int) (string, api.Errno) {
	if !isHashWidth(width) {
		return "", api.ErrWidth
	}
	if len(hash) != width {
		return "", api.ErrHash
	}
	place, errno := Number(offset, offsetBytes)
	if errno != api.OK {
		return "", errno
	}
	return hash + place, api.OK
}

// ReadEntry reads the entry number i of an index.
func ReadEntry(width int, index string, i int) (string, int, api.Errno) {
	count, errno := countEntries(width, index)
	if errno != api.OK {
		return "", 0, errno
	}
	if i < 0 || i >= count {
		return "", 0, api.ErrArg
	}
	x := entryAt(width, index, i)
	return x.hash, x.offset, api.OK
}

func countEntries(width int, index string) (int, api.Errno) {
	if !isHashWidth(width) {
		return 0, api.ErrWidth
	}
	if len(index)%(width+offsetBytes) != 0 {
		return 0, api.ErrIndex
	}
	return len(index) / (width + offsetBytes), api.OK
}

// entryAt is an entry of an index that is known to have it.
func entryAt(width int, index string, i int) entry {
	size := width + offsetBytes
	one := index[i*size : (i+1)*size]
	return entry{hash: one[:width], offset: int(take[uint32](one[width:]))}
}

// readIndex is all entries of an index, if their hashes rise.
func readIndex(width int, index string) ([]entry, api.Errno) {
	count, errno := countEntries(width, index)
	if errno != api.OK {
		return nil, errno
	}
	var list []entry
	for i := range count {
		list = append(list, entryAt(width, index, i))
		if rise(list, i, entryHash) <= 0 {
			return nil, api.ErrIndex
		}
	}
	return list, api.OK
}

func isHashWidth(width int) bool { return width >= 1 && width <= api.MaxWidth }
