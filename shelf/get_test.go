package shelf

import (
	"fmt"
	"math/bits"
	"slices"
	"strings"
	"testing"

	"granary/api"
)

// P9.2

// TestReadAnew: what a call answers comes from the disk, each time.
func TestReadAnew(t *testing.T) {
	s, d := sample().opened(t)
	for _, value := range []string{"ONE", "TWO"} {
		list := harvest()
		for i := range list {
			list[i].Value = value + list[i].Value[len(list[i].Value):]
		}
		b := boxOf(east(), 1, 7, list)
		for _, name := range b.names() {
			rewrite(t, d, "v/"+name, b.files[name])
		}
		readsAs(t, s, east(), 1, list)
	}
	for _, p := range plainAll(east(), 1, harvest()) {
		for range 2 {
			if n := reads(d, func() { s.Get(p.Key) }); n < 2 {
				t.Errorf("Get(%q): %d Reads", p.Key, n)
			}
		}
	}
	for range 2 {
		is(t, "Reads of Scan", reads(d, func() { s.Scan(0) }), 4)
		is(t, "Reads of All", reads(d, func() { drain(s) }), 8)
	}
}

// askAll makes every call: that it ends, and does not panic, is all that is asked.
func askAll(t *testing.T, s *Shelf) {
	t.Helper()
	for _, p := range harvest() {
		if value, found, e := s.Get(p.Key); e != api.OK && (value != "" || found) || value != "" && !found {
			t.Errorf("Get(%q) = %q, %v, %d", p.Key, value, found, e)
		}
	}
	for part := range 5 {
		if list, e := s.Scan(part); e != api.OK && list != nil {
			t.Errorf("Scan(%d) = %v, %d", part, list, e)
		}
	}
	drain(s)
	is(t, "Version", s.Version(), 7)
	is(t, "Count", s.Count(), len(plainAll(east(), 1, harvest())))
}

// TestDirectoryChanged: the calls end whatever has become of the directory.
func TestDirectoryChanged(t *testing.T) {
	b := sample()
	for _, name := range b.names() {
		s, d := b.opened(t)
		done(t, d.Truncate("v/"+name, len(b.files[name])/2))
		askAll(t, s)
		rewrite(t, d, "v/"+name, strings.Repeat("\xff", 70000))
		askAll(t, s)
		rewrite(t, d, "v/"+name, "")
		askAll(t, s)
		done(t, d.Remove("v/"+name))
		askAll(t, s)
		put(t, d, "v/"+name+"/", "")
		askAll(t, s)
		done(t, d.Rename("v", "w"))
		askAll(t, s)
		put(t, d, "v", "")
		askAll(t, s)
	}
	lot := dice(9)
	for range 400 {
		s, d := b.opened(t)
		for range 1 + lot.roll(5) {
			name := b.names()[lot.roll(len(b.files))]
			data := []byte(b.files[name])
			for i := range data {
				if lot.roll(4) == 0 {
					data[i] = []byte{0, 1, 2, 255, byte(lot.roll(256))}[lot.roll(5)]
				}
			}
			rewrite(t, d, "v/"+name, string(data[lot.roll(len(data)+1)/4:]))
		}
		askAll(t, s)
	}
}

// P9.3

func TestVersionAndCount(t *testing.T) {
	s, d := sample().opened(t)
	ask := func() {
		t.Helper()
		is(t, "Version", s.Version(), 7)
		is(t, "Count", s.Count(), len(plainAll(east(), 1, harvest())))
	}
	is(t, "Reads", reads(d, ask), 0)
	down(t, d)
	ask()
	up(d)
	for _, name := range sample().names() {
		done(t, d.Remove("v/"+name))
	}
	done(t, d.Remove("v"))
	ask()
	for _, n := range []int{0, 1, 2, 512} {
		s, _ := boxOf(single(3), 0, 1, numbered(n)).opened(t)
		is(t, "Count", s.Count(), n)
	}
}

// P9.4

// absentKeys are keys that stand nowhere, one for each hash of a width of 1, by rising hash.
func absentKeys(c api.Cluster) []string {
	keys := make([]string, 256)
	for i, left := 0, 256; left > 0; i++ {
		key := fmt.Sprint("absent", i)
		if hash := plainLocate(c, key).Hash[0]; keys[hash] == "" {
			keys[hash] = key
			left--
		}
	}
	return keys
}

// ofHashes are pairs with just these hashes.
func ofHashes(c api.Cluster, hashes ...byte) []api.Pair {
	var list []api.Pair
	for i := 0; len(list) < len(hashes); i++ {
		key := fmt.Sprint("key", i)
		at := slices.Index(hashes, plainLocate(c, key).Hash[0])
		taken := func(p api.Pair) bool { return plainLocate(c, p.Key).Hash == plainLocate(c, key).Hash }
		if at >= 0 && !slices.ContainsFunc(list, taken) {
			list = append(list, api.Pair{Key: key, Value: fmt.Sprint("value ", i)})
		}
	}
	return list
}

// TestFewReads: chunks of no entry up to all 256, each key that is there, and one that is not of each hash: ahead of all entries, between each two, behind them, and within a group.
func TestFewReads(t *testing.T) {
	c := single(1)
	absent := absentKeys(c)
	var hashes []byte
	for i := range 256 {
		hashes = append(hashes, byte(i*37)) // each of them once
	}
	for n := range 257 {
		if n > 40 && n%16 > 1 && n%16 < 15 {
			continue
		}
		list := ofHashes(c, hashes[:n]...)
		s, d := boxOf(c, 0, 1, list).opened(t)
		most := bits.Len(uint(n)) + 2
		for _, p := range list {
			if r := reads(d, func() { getIs(t, s, p.Key, p.Value, true, api.OK) }); r > most {
				t.Errorf("%d entries: %d Reads for a key that is there, at most %d", n, r, most)
			}
		}
		for _, key := range absent {
			if r := reads(d, func() { getIs(t, s, key, "", false, api.OK) }); r > most {
				t.Errorf("%d entries: %d Reads for a key that is not there, at most %d", n, r, most)
			}
		}
	}
}

// TestHalves: many entries of a great width cost hardly more Reads than few.
func TestHalves(t *testing.T) {
	c := single(16)
	list := numbered(3000)
	s, d := boxOf(c, 0, 1, list).opened(t)
	most := 0
	for _, p := range list {
		most = max(most, reads(d, func() { getIs(t, s, p.Key, p.Value, true, api.OK) }))
		most = max(most, reads(d, func() { getIs(t, s, p.Key+"-", "", false, api.OK) }))
	}
	if most > 12+2 {
		t.Errorf("%d Reads of 3000 entries", most)
	}
}

// TestReadsCountTheChunkAlone: the entries of the key's own chunk count, not those of the partition or of the node.
func TestReadsCountTheChunkAlone(t *testing.T) {
	c := round(2, 4, 1, 4, 3)
	list := numbered(300)
	for _, p := range numbered(600)[300:] { // one chunk has a single pair
		if at := plainLocate(c, p.Key); at.Part == 0 && at.Chunk == 1 {
			list = slices.DeleteFunc(list, func(p api.Pair) bool {
				at := plainLocate(c, p.Key)
				return at.Part == 0 && at.Chunk == 1
			})
			list = append(list, p)
			break
		}
	}
	is(t, "a chunk of one pair", len(plainIn(c, list, 0, 1)), 1)
	for node := range 2 {
		s, d := boxOf(c, node, 1, list).opened(t)
		for _, p := range list {
			at := plainLocate(c, p.Key)
			most := bits.Len(uint(len(plainIn(c, list, at.Part, at.Chunk)))) + 2
			if r := reads(d, func() { s.Get(p.Key) }); r > most {
				t.Errorf("Get(%q): %d Reads, at most %d", p.Key, r, most)
			}
		}
	}
}

func TestKeysLengths(t *testing.T) {
	long, short := text(255), "k"
	list := []api.Pair{{Key: long, Value: "long"}, {Key: short, Value: text(4096)}, {Key: "\x00", Value: ""}, {Key: "\xff\n ", Value: "\x00"}}
	c := single(2)
	s, d := boxOf(c, 0, 1, list).opened(t)
	for _, p := range list {
		getIs(t, s, p.Key, p.Value, true, api.OK)
	}
	getIs(t, s, "", "", false, api.ErrKey)
	getIs(t, s, text(256), "", false, api.ErrKey)
	getIs(t, s, text(70000), "", false, api.ErrKey)
	getIs(t, s, text(254), "", false, api.OK)
	is(t, "Reads for what is no key", reads(d, func() { s.Get(""); s.Get(text(256)) }), 0)
}

// TestGetInOrder: ErrKey, then ErrForeign, then ErrDown.
func TestGetInOrder(t *testing.T) {
	s, d := sample().opened(t)
	for _, isDown := range []bool{false, true} {
		errno := api.OK
		if isDown {
			down(t, d)
			errno = api.ErrDown
		}
		getIs(t, s, "", "", false, api.ErrKey)
		getIs(t, s, text(256), "", false, api.ErrKey)
		for _, p := range harvest() {
			switch {
			case plainLocate(east(), p.Key).Part > 1:
				getIs(t, s, p.Key, "", false, api.ErrForeign)
			case isDown:
				getIs(t, s, p.Key, "", false, errno)
			default:
				getIs(t, s, p.Key, p.Value, true, errno)
			}
		}
	}
	up(d)
	readsAs(t, s, east(), 1, harvest())
	// Of no pairs at all, too: the disk is asked even where there is nothing to be found.
	s, d = boxOf(east(), 1, 7, nil).opened(t)
	getIs(t, s, "abc", "", false, api.OK)
	down(t, d)
	getIs(t, s, "abc", "", false, api.ErrDown)
	s, d = boxOf(settings("bare", 1, 1, 1, holding(), holding(0)), 0, 7, nil).opened(t)
	getIs(t, s, "abc", "", false, api.ErrForeign)
	down(t, d)
	getIs(t, s, "abc", "", false, api.ErrForeign)
	getIs(t, s, "", "", false, api.ErrKey)
}

// groupOf are so many keys of one hash, rising.
func groupOf(c api.Cluster, n int) []string {
	var keys []string
	for i := 0; len(keys) < n; i++ {
		if key := fmt.Sprintf("%07d", i); plainLocate(c, key).Hash == "r" {
			keys = append(keys, key)
		}
	}
	return keys
}

// TestOneHash: keys of one group are told apart, and from those that would be in it but are not.
func TestOneHash(t *testing.T) {
	c := single(1)
	for _, n := range []int{1, 2, 3, 512} {
		keys := groupOf(c, n+3)
		var list []api.Pair
		for i, key := range keys {
			if i != 0 && i != 1+n/2 && i != n+2 { // one ahead of the group, one within it, one behind it
				list = append(list, api.Pair{Key: key, Value: fmt.Sprint("of ", key)})
			}
		}
		for _, more := range [][]api.Pair{nil, ofHashes(c, 'q', 's')} {
			s, _ := boxOf(c, 0, 1, append(list, more...)).opened(t)
			for _, p := range list {
				getIs(t, s, p.Key, p.Value, true, api.OK)
			}
			for _, i := range []int{0, 1 + n/2, n + 2} {
				getIs(t, s, keys[i], "", false, api.OK)
			}
		}
	}
}

// filled gives pairs values with which their records have so many bytes.
func filled(list []api.Pair, room int) []api.Pair {
	for i := range list {
		room -= 6 + len(list[i].Key)
		list[i].Value = strings.Repeat(fmt.Sprint(i%10), min(4096, room))
		room -= len(list[i].Value)
	}
	return list
}

// TestFullChunks: a record that ends where the greatest data end, and one that is all of it.
func TestFullChunks(t *testing.T) {
	c := single(1)
	list := filled(ofHashes(c, 3, 255, 128, 129, 130, 131, 132, 133, 134, 135, 136, 137, 138, 139, 140, 0), 1<<16-16*2)
	b := boxOf(c, 0, 1, list)
	is(t, "the data", len(b.files["0_0_0.data"]), 1<<16)
	s, _ := b.opened(t)
	readsAs(t, s, c, 0, list)

	list = filled(pairs(groupOf(c, 16)...), 1<<16-2)
	b = boxOf(c, 0, 1, list)
	is(t, "the one record", len(b.files["0_0_0.data"]), 1<<16)
	is(t, "the one entry", len(b.files["0_0_0.index"]), 5)
	s, _ = b.opened(t)
	readsAs(t, s, c, 0, list)
}
