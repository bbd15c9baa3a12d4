package builder

import (
	"strings"

	"granary/api"
	"granary/sorter"
)

// rows are those that a sorter gives. The next one is looked at ahead of being taken: it may belong to another chunk.
type rows struct {
	from *sorter.Sorter
	next api.Row
	more bool
}

func read(s *sorter.Sorter) *rows {
	r := &rows{from: s}
	r.step()
	return r
}

func (r *rows) step() {
	row, e := r.from.Next()
	if e != api.ErrEnd {
		must(e)
	}
	r.next, r.more = row, e == api.OK
}

// chunkMark is what the hashes of all rows of a chunk begin with.
func chunkMark(part, chunk int) string { return string([]byte{byte(part), byte(chunk)}) }

// take takes the rows of one chunk, and gives what the policy keeps of them.
func (r *rows) take(mark string, policy int) []api.Group {
	var groups []api.Group
	for r.more && strings.HasPrefix(r.next.Hash, mark) {
		hash := r.next.Hash[len(mark):]
		if len(groups) == 0 || groups[len(groups)-1].Hash != hash {
			groups = append(groups, api.Group{Hash: hash})
		}
		group := &groups[len(groups)-1]
		group.Pairs = keep(group.Pairs, api.Pair{Key: r.next.Key, Value: r.next.Value}, policy)
		r.step()
	}
	return groups
}

// keep puts a pair behind those of its group. Pairs of one key come one behind the other, in the dataset's order.
func keep(pairs []api.Pair, pair api.Pair, policy int) []api.Pair {
	last := len(pairs) - 1
	if last < 0 || pairs[last].Key != pair.Key {
		return append(pairs, pair)
	}
	if policy == api.KeepLast {
		pairs[last] = pair
	}
	return pairs
}

// count is how many pairs some groups have.
func count(groups []api.Group) int {
	sum := 0
	for _, g := range groups {
		sum += len(g.Pairs)
	}
	return sum
}
