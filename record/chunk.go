package record

import "granary/api"

// Encode writes groups as a chunk.
func Encode(width int, groups []api.Group) (api.Chunk, api.Errno) {
	size, errno := weighGroups(width, groups)
	if errno != api.OK {
		return api.Chunk{}, errno
	}
	index := make([]byte, 0, len(groups)*(width+offsetBytes))
	data := make([]byte, 0, size)
	for _, g := range groups {
		index = append(index, g.Hash...)
		index = put(index, uint32(len(data)))
		data = write(data, g.Pairs)
	}
	return api.Chunk{Index: string(index), Data: string(data)}, api.OK
}

// weighGroups is the size of the groups' records, or why they are no chunk. Nothing is written ahead of it: the groups may be far more than a chunk holds.
func weighGroups(width int, groups []api.Group) (int, api.Errno) {
	if !isHashWidth(width) {
		return 0, api.ErrWidth
	}
	all := 0
	for i, g := range groups {
		if len(g.Hash) != width {
			return 0, api.ErrHash
		}
		if rise(groups, i, groupHash) <= 0 {
			return 0, api.ErrSorted
		}
		size, errno := weigh(g.Pairs)
		if errno != api.OK {
			return 0, errno
		}
		all += size
	}
	if all > api.MaxData {
		return 0, api.ErrBig
	}
	return all, api.OK
}

// Decode reads a chunk; it takes just what Encode writes.
func Decode(width int, c api.Chunk) ([]api.Group, api.Errno) {
	entries, errno := readIndex(width, c.Index)
	if errno != api.OK {
		return nil, errno
	}
	if len(c.Data) > api.MaxData {
		return nil, api.ErrData
	}
	var groups []api.Group
	at := 0
	for _, x := range entries {
		pairs, next, errno := ReadRecord(c.Data, at)
		if errno != api.OK || x.offset != at {
			return nil, api.ErrData
		}
		groups = append(groups, api.Group{Hash: x.hash, Pairs: pairs})
		at = next
	}
	if at != len(c.Data) {
		return nil, api.ErrData
	}
	return groups, api.OK
}

// Lookup finds a key in a chunk.
func Lookup(width int, c api.Chunk, hash, key string) (string, bool, api.Errno) {
	groups, errno := Decode(width, c)
	if errno != api.OK {
		return "", false, errno
	}
	if len(hash) != width {
		return "", false, api.ErrHash
	}
	if !isKey(key) {
		return "", false, api.ErrKey
	}
	group, _ := find(groups, hash, groupHash)
	pair, found := find(group.Pairs, key, pairKey)
	return pair.Value, found, api.OK
}
