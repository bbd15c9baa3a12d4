package engine

import (
	"crypto/md5"
	"encoding/binary"
	"fmt"
	"slices"
	"strings"
	"testing"

	"granary/api"
	"granary/ring"
	"granary/shelf"
)

// long is a dataset with lengths about the edges of the bytes that they are written in.
func long(n int) []api.Pair {
	list := []api.Pair{{Key: "e", Value: ""}, {Key: strings.Repeat("k", 255), Value: "long"}, {Key: "w", Value: strings.Repeat("v", 4096)}, {Key: "x", Value: strings.Repeat("v", 256)}, {Key: "y", Value: strings.Repeat("v", 255)}, {Key: "\x00", Value: "\x00\xff"}}
	for i := range n {
		list = append(list, api.Pair{Key: fmt.Sprint("key", i), Value: fmt.Sprint("value", i*i)})
	}
	return list
}

// sumOf is the sum of pairs, as the chapter has it.
func sumOf(pairs []api.Pair) string {
	var text []byte
	for _, p := range pairs {
		text = binary.BigEndian.AppendUint16(text, uint16(len(p.Key)))
		text = binary.BigEndian.AppendUint32(text, uint32(len(p.Value)))
		text = append(text, p.Key+p.Value...)
	}
	sum := md5.Sum(text)
	return string(sum[:])
}

// partOf is the pairs of a partition, by chunk, hash and key.
func partOf(t *testing.T, c api.Cluster, pairs []api.Pair, part int) []api.Pair {
	t.Helper()
	type placed struct {
		api.Place
		api.Pair
	}
	var list []placed
	for _, p := range pairs {
		at, e := ring.Locate(c, p.Key)
		done(t, e)
		if at.Part == part {
			list = append(list, placed{at, p})
		}
	}
	slices.SortFunc(list, func(a, b placed) int {
		if a.Chunk != b.Chunk {
			return a.Chunk - b.Chunk
		}
		return strings.Compare(a.Hash+a.Key, b.Hash+b.Key)
	})
	var out []api.Pair
	for _, x := range list {
		out = append(out, x.Pair)
	}
	return out
}

// reads holds that all that an engine tells of a version is what a dataset says.
func reads(t *testing.T, what string, x *Engine, c api.Cluster, node, version int, pairs []api.Pair) {
	t.Helper()
	for part := -1; part <= 5; part++ {
		owners, e := ring.Owners(c, part)
		if e == api.OK && !slices.Contains(owners, node) {
			e = api.ErrForeign
		}
		if e != api.OK {
			if s, n, f := x.Sum(version, part); s != "" || n != 0 || f != e {
				t.Errorf("%s: Sum(%d, %d) = %x, %d, %d, want %d", what, version, part, s, n, f, e)
			}
			for _, at := range []int{leastInt, -1, 0, 1, mostInt} {
				entryIs(t, what, x, version, part, at, api.Pair{}, e)
			}
			continue
		}
		want := partOf(t, c, pairs, part)
		if s, n, e := x.Sum(version, part); s != sumOf(want) || n != len(want) || e != api.OK {
			t.Errorf("%s: Sum(%d, %d) = %x, %d, %d, want %x, %d", what, version, part, s, n, e, sumOf(want), len(want))
		}
		for i, p := range want {
			entryIs(t, what, x, version, part, i, p, api.OK)
		}
		for _, at := range []int{leastInt, -2, -1} {
			entryIs(t, what, x, version, part, at, api.Pair{}, api.ErrArg)
		}
		for _, at := range []int{len(want), len(want) + 1, mostInt} {
			entryIs(t, what, x, version, part, at, api.Pair{}, api.ErrEnd)
		}
	}
}

func entryIs(t *testing.T, what string, x *Engine, version, part, at int, want api.Pair, wrong api.Errno) {
	t.Helper()
	if p, e := x.Entry(version, part, at); p != want || e != wrong {
		t.Errorf("%s: Entry(%d, %d, %d) = %.50q, %d, want %.50q, %d", what, version, part, at, p, e, want, wrong)
	}
}

// P12.9, P12.9a

func TestSumAndEntry(t *testing.T) {
	for _, c := range []api.Cluster{east(), small(2)} {
		for node := range len(c.Nodes) {
			b := at(t, c, node)
			sets := [][]api.Pair{long(40), nil, {{Key: "abc", Value: "one"}}, long(0)}
			for i, pairs := range sets {
				lay(t, b.d, fmt.Sprint("store/fetch-", i+1), built(t, c, node, i+1, pairs))
				done(t, b.Admit(i+1))
			}
			done(t, b.Swap(2, 1, 1)) // all that it has can be asked for, not the current one alone
			for i, pairs := range sets {
				calm(t, "Sum, Entry", b.d, func() { reads(t, c.Store, b.Engine, c, node, i+1, pairs) })
			}
			for _, v := range []int{leastInt, -1, 0, 5, 999999, 1000000, mostInt} {
				for _, part := range []int{leastInt, -1, 0, 3, 64, mostInt} {
					if s, n, e := b.Sum(v, part); s != "" || n != 0 || e != api.ErrAbsent {
						t.Errorf("Sum(%d, %d) = %x, %d, %d", v, part, s, n, e)
					}
					for _, at := range []int{-1, 0, mostInt} {
						entryIs(t, "no such version", b.Engine, v, part, at, api.Pair{}, api.ErrAbsent)
					}
				}
			}
		}
	}
}

// Two replicas of a partition have one sum; another dataset has another.
func TestSumsOfReplicas(t *testing.T) {
	c := east()
	var all []*bench
	for node := range 3 {
		b := at(t, c, node)
		for v := 1; v <= 2; v++ {
			lay(t, b.d, fmt.Sprint("store/fetch-", v), built(t, c, node, v, long(30*v)))
			done(t, b.Admit(v))
		}
		all = append(all, b)
	}
	for part := range 4 {
		owners, e := ring.Owners(c, part)
		done(t, e)
		first, n, e := all[owners[0]].Sum(1, part)
		done(t, e)
		other, m, e := all[owners[1]].Sum(1, part)
		done(t, e)
		if first != other || n != m || len(first) != 16 {
			t.Errorf("partition %d: %x, %d and %x, %d", part, first, n, other, m)
		}
		if next, _, _ := all[owners[0]].Sum(2, part); next == first {
			t.Errorf("partition %d: one sum of two datasets", part)
		}
	}
}

// Two keys of one hash stand by rising keys, and pairs whose bytes run together are told apart.
func TestSumTellsPairsApart(t *testing.T) {
	sums := map[string]string{}
	for _, pairs := range [][]api.Pair{
		nil,
		{{Key: "a", Value: "bc"}}, {{Key: "ab", Value: "c"}}, {{Key: "abc", Value: ""}},
		{{Key: "a", Value: "\x00\x01\x00\x00\x00\x00b"}}, {{Key: "a", Value: ""}, {Key: "b", Value: ""}},
	} {
		b := alone(t)
		lay(t, b.d, "store/fetch-1", built(t, b.c, 0, 1, pairs))
		done(t, b.Admit(1))
		sum, n, e := b.Sum(1, 0)
		if n != len(pairs) || e != api.OK || len(sum) != 16 {
			t.Errorf("Sum of %q = %x, %d, %d", pairs, sum, n, e)
		}
		if other, ok := sums[sum]; ok {
			t.Errorf("%q and %s have one sum", pairs, other)
		}
		sums[sum] = fmt.Sprintf("%q", pairs)
	}
	is(t, "of nothing", fmt.Sprintf("%x", sumOf(nil)), "d41d8cd98f00b204e9800998ecf8427e")
}

// P12.8

func TestGet(t *testing.T) {
	c := east()
	pairs := long(60)
	for node := range 3 {
		b := at(t, c, node)
		lay(t, b.d, "store/fetch-9", built(t, c, node, 9, pairs))
		done(t, b.Admit(9), b.Swap(9, 1, 1))
		s, e := shelf.Open(b.d, "store/version-9", c, node, 9)
		done(t, e)
		keys := []string{"", strings.Repeat("k", 256), strings.Repeat("k", 254), "none", "key", "\xff"}
		for _, p := range pairs {
			keys = append(keys, p.Key)
		}
		told := map[api.Errno]int{}
		calm(t, "Get", b.d, func() {
			for _, key := range keys {
				value, found, e := s.Get(key)
				want := api.Answer{Version: 9, Found: found, Value: value}
				if e != api.OK {
					want = api.Answer{}
				}
				getIs(t, "as the shelf", b.Engine, key, want, e)
				told[e]++
				i := slices.IndexFunc(pairs, func(p api.Pair) bool { return p.Key == key })
				if e == api.OK && (found != (i >= 0) || found && value != pairs[i].Value) {
					t.Errorf("Get(%q) = %q, %v", key, value, found)
				}
			}
		})
		if told[api.OK] < 10 || told[api.ErrKey] != 2 || (told[api.ErrForeign] < 5) != (node == 0) {
			t.Errorf("node %d: %v", node, told)
		}
		down(t, b.d)
		getIs(t, "down", b.Engine, "", api.Answer{}, api.ErrKey)
		for _, key := range keys[2:] {
			want := api.ErrDown
			if _, _, e := s.Get(key); e == api.ErrForeign {
				want = e
			}
			getIs(t, "down", b.Engine, key, api.Answer{}, want)
		}
		if s, n, e := b.Sum(9, []int{0, 0, 2}[node]); s != "" || n != 0 || e != api.ErrDown {
			t.Errorf("down: Sum = %x, %d, %d", s, n, e)
		}
		entryIs(t, "down", b.Engine, 9, []int{0, 0, 2}[node], -1, api.Pair{}, api.ErrDown)
		stateIs(t, "reading makes nobody stuck", b.Engine, 9, 0, 1, 1, 9)
		b.d.Crash(0, 0)
		reads(t, "up again", b.Engine, c, node, 9, pairs)
	}
}

// A node without partitions has versions too, with nothing to be read in them.
func TestNodeWithoutPartitions(t *testing.T) {
	c := east()
	c.Nodes = append(c.Nodes, api.NodeDef{})
	b := at(t, c, 3)
	b.admitted(t, 1, 2)
	done(t, b.Swap(2, 1, 1))
	getIs(t, "foreign", b.Engine, "abc", api.Answer{}, api.ErrForeign)
	for part := range 4 {
		_, _, e := b.Sum(1, part)
		is(t, "foreign", e, api.ErrForeign)
	}
	b.again(t)
	stateIs(t, "opened anew", b.Engine, 2, 0, 1, 1, 1, 2)
}
