package record

import (
	"encoding/binary"
	"fmt"
	"slices"
	"testing"

	"granary/api"
)

// parsed are the pairs of a record at the beginning of data, by the words of P3.5, and what stands behind them.
func parsed(data string) (pairs []api.Pair, rest string, ok bool) {
	if len(data) < 2 {
		return nil, "", false
	}
	count := int(binary.BigEndian.Uint16([]byte(data)))
	at := 2
	for len(pairs) < count {
		if len(data)-at < 6 {
			return nil, "", false
		}
		k := int(binary.BigEndian.Uint16([]byte(data[at:])))
		v := int(binary.BigEndian.Uint32([]byte(data[at+2:])))
		at += 6
		if k < 1 || k > 255 || v > 4096 || len(data)-at < k+v {
			return nil, "", false
		}
		p := api.Pair{Key: data[at : at+k], Value: data[at+k : at+k+v]}
		if len(pairs) > 0 && p.Key <= pairs[len(pairs)-1].Key {
			return nil, "", false
		}
		pairs = append(pairs, p)
		at += k + v
	}
	return pairs, data[at:], count >= 1 && count <= 512 && at <= 65536
}

// parsedChunk are the groups of a chunk, by the words of P3.7 and P3.8.
func parsedChunk(width int, c api.Chunk) ([]api.Group, api.Errno) {
	size := width + 4
	if len(c.Index)%size != 0 {
		return nil, api.ErrIndex
	}
	var groups []api.Group
	for at := 0; at < len(c.Index); at += size {
		groups = append(groups, api.Group{Hash: c.Index[at : at+width]})
	}
	for i := range groups {
		if i > 0 && groups[i].Hash <= groups[i-1].Hash {
			return nil, api.ErrIndex
		}
	}
	rest := c.Data
	for i := range groups {
		offset := int(binary.BigEndian.Uint32([]byte(c.Index[i*size+width:])))
		pairs, behind, ok := parsed(rest)
		if !ok || offset != len(c.Data)-len(rest) {
			return nil, api.ErrData
		}
		groups[i].Pairs = pairs
		rest = behind
	}
	if rest != "" || len(c.Data) > 65536 {
		return nil, api.ErrData
	}
	return groups, api.OK
}

// someGroups are groups that may be, mostly small.
func (d *dice) someGroups(width int) []api.Group {
	var groups []api.Group
	for range d.roll(5) {
		g := api.Group{Hash: d.bytes(width)}
		for range 1 + d.roll(4) {
			g.Pairs = append(g.Pairs, api.Pair{Key: d.bytes(1 + d.roll(4)), Value: d.bytes(d.roll(4))})
		}
		slices.SortFunc(g.Pairs, func(a, b api.Pair) int { return compare(a.Key, b.Key) })
		g.Pairs = slices.CompactFunc(g.Pairs, func(a, b api.Pair) bool { return a.Key == b.Key })
		groups = append(groups, g)
	}
	slices.SortFunc(groups, func(a, b api.Group) int { return compare(a.Hash, b.Hash) })
	return slices.CompactFunc(groups, func(a, b api.Group) bool { return a.Hash == b.Hash })
}

func compare(a, b string) int {
	switch {
	case a < b:
		return -1
	case a > b:
		return 1
	}
	return 0
}

// hurt cuts a piece off or out of a text, puts one in, or turns one.
func (d *dice) hurt(s string) string {
	at := d.roll(len(s) + 1)
	upto := min(len(s), at+d.roll(3))
	switch d.roll(5) {
	case 0:
		return s[:at]
	case 1:
		return s[:at] + s[upto:]
	case 2:
		return s[:at] + d.bytes(1+d.roll(2)) + s[at:]
	case 3:
		return s[:at] + d.bytes(upto-at) + s[upto:]
	}
	return s
}

func (d *dice) hurtChunk(c api.Chunk) api.Chunk {
	for range 1 + d.roll(2) {
		if d.roll(2) == 0 {
			c.Index = d.hurt(c.Index)
		} else {
			c.Data = d.hurt(c.Data)
		}
	}
	return c
}

// agrees holds Decode of any chunk against the model, and Encode of the groups against the chunk.
func agrees(t *testing.T, width int, c api.Chunk) api.Errno {
	t.Helper()
	want, errno := parsedChunk(width, c)
	decodes(t, width, c, want, errno)
	if errno == api.OK {
		encodes(t, width, want, c, api.OK)
	}
	return errno
}

func TestDecodeTakesJustWhatEncodeMakes(t *testing.T) {
	d := dice(3)
	seen := map[api.Errno]int{}
	for range 20000 {
		width := 1 + d.roll(3)
		groups := d.someGroups(width)
		c := made(t, width, groups...)
		decodes(t, width, c, groups, api.OK)
		seen[agrees(t, width, d.hurtChunk(c))]++
	}
	for _, e := range []api.Errno{api.OK, api.ErrIndex, api.ErrData} {
		if seen[e] < 100 {
			t.Errorf("only %d hurt chunks came to %d: %v", seen[e], e, seen)
		}
	}
}

func TestEachByteOfAChunkTurnedCutAndPutIn(t *testing.T) {
	c := made(t, 1, group("a", "k", "vw", "l", ""), group("c", "\x00", "\x00\x00"), group("d", "k", "x"))
	for at := range len(c.Index) {
		for x := range 256 {
			agrees(t, 1, chunk(c.Index[:at]+string([]byte{byte(x)})+c.Index[at+1:], c.Data))
			agrees(t, 1, chunk(c.Index[:at]+string([]byte{byte(x)})+c.Index[at:], c.Data))
		}
		agrees(t, 1, chunk(c.Index[:at], c.Data))
		agrees(t, 1, chunk(c.Index[:at]+c.Index[at+1:], c.Data))
	}
	for at := range len(c.Data) {
		for x := range 256 {
			agrees(t, 1, chunk(c.Index, c.Data[:at]+string([]byte{byte(x)})+c.Data[at+1:]))
			agrees(t, 1, chunk(c.Index, c.Data[:at]+string([]byte{byte(x)})+c.Data[at:]))
		}
		agrees(t, 1, chunk(c.Index, c.Data[:at]))
		agrees(t, 1, chunk(c.Index, c.Data[:at]+c.Data[at+1:]))
	}
}

func TestReadRecordIsWhatRecordWrites(t *testing.T) {
	d := dice(4)
	taken := 0
	for range 20000 {
		data := ""
		for _, g := range d.someGroups(1) {
			data += raw(len(g.Pairs), g.Pairs...)
		}
		data = d.hurt(data)
		at := 0
		for at <= len(data) {
			want, rest, ok := parsed(data[at:])
			if !ok {
				readsRecord(t, data, at, nil, 0, api.ErrData)
				break
			}
			next := len(data) - len(rest)
			readsRecord(t, data, at, want, next, api.OK)
			records(t, want, data[at:next], api.OK)
			at = next
			taken++
		}
	}
	if taken < 10000 {
		t.Errorf("only %d records", taken)
	}
}

// Any bytes and any numbers: the call ends, and beside an error the rest is zero.
func TestAnyBytes(t *testing.T) {
	d := dice(5)
	for range 20000 {
		width := d.roll(20) - 1
		c := chunk(d.bytes(d.roll(30)), d.bytes(d.roll(40)))
		if width >= 1 && width <= api.MaxWidth {
			agrees(t, width, c)
		} else {
			decodes(t, width, c, nil, api.ErrWidth)
		}
		at := d.roll(50) - 5
		pairs, next, e := ReadRecord(c.Data, at)
		if e != api.OK && (pairs != nil || next != 0) {
			t.Errorf("ReadRecord(%q, %d) = %q, %d, %d", c.Data, at, pairs, next, e)
		}
		hash, offset, e := ReadEntry(width, c.Index, at)
		if e == api.OK {
			enters(t, width, hash, offset, c.Index[at*(width+4):(at+1)*(width+4)], api.OK)
		} else if hash != "" || offset != 0 {
			t.Errorf("ReadEntry(%d, %q, %d) = %q, %d, %d", width, c.Index, at, hash, offset, e)
		}
	}
}

func TestLookupIsWhatDecodeTells(t *testing.T) {
	d := dice(6)
	hits := 0
	for range 5000 {
		groups := d.someGroups(1)
		c := made(t, 1, groups...)
		has := map[string]string{}
		for _, g := range groups {
			for _, p := range g.Pairs {
				has[fmt.Sprint(g.Hash, "/", p.Key)] = p.Value
			}
		}
		for range 20 {
			hash, key := d.bytes(1), d.bytes(1+d.roll(3))
			value, found := has[fmt.Sprint(hash, "/", key)]
			looks(t, 1, c, hash, key, value, found, api.OK)
			if found {
				hits++
			}
		}
	}
	if hits < 1000 {
		t.Errorf("only %d keys were found", hits)
	}
}
