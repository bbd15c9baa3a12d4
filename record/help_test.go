package record

import (
	"encoding/binary"
	"fmt"
	"strings"
	"testing"

	"granary/api"
)

const (
	most  = int(^uint(0) >> 1)
	least = -most - 1
)

var (
	longKey   = strings.Repeat("k", api.MaxKey)
	longValue = strings.Repeat("v", api.MaxValue)
)

func is[T comparable](t *testing.T, what string, got, want T) {
	t.Helper()
	if got != want {
		t.Errorf("%s: %v, want %v", what, got, want)
	}
}

// dice are numbers that are the same in every run.
type dice uint64

func (d *dice) roll(n int) int {
	*d = *d*6364136223846793005 + 1442695040888963407
	return int(uint64(*d)>>33) % n
}

// bytes are so many bytes, few kinds of them, so that texts are alike often.
func (d *dice) bytes(n int) string {
	out := make([]byte, n)
	for i := range out {
		out[i] = "\x00\x01a\xff"[d.roll(4)]
	}
	return string(out)
}

// pp are pairs of keys and values, in turns.
func pp(words ...string) []api.Pair {
	var list []api.Pair
	for i := 0; i < len(words); i += 2 {
		list = append(list, api.Pair{Key: words[i], Value: words[i+1]})
	}
	return list
}

func group(hash string, words ...string) api.Group { return api.Group{Hash: hash, Pairs: pp(words...)} }

func chunk(index, data string) api.Chunk { return api.Chunk{Index: index, Data: data} }

// many are so many pairs of rising keys of three bytes.
func many(n int, value string) []api.Pair {
	var list []api.Pair
	for i := range n {
		list = append(list, api.Pair{Key: fmt.Sprintf("%03x", i), Value: value})
	}
	return list
}

// filling are pairs whose record has just so many bytes (some 5000 at least).
func filling(t *testing.T, size int) []api.Pair {
	t.Helper()
	one := 2 + 4 + 3 + api.MaxValue
	list := many((size-2)/one+1, longValue)
	rest := size - 2 - one*(len(list)-1) - (one - api.MaxValue)
	if rest < 0 {
		t.Fatalf("%d bytes leave %d for the last value", size, rest)
	}
	list[len(list)-1].Value = longValue[:rest]
	return list
}

// raw writes pairs as a record has them, whether they may be or not.
func raw(count int, pairs ...api.Pair) string {
	out := binary.BigEndian.AppendUint16(nil, uint16(count))
	for _, p := range pairs {
		out = binary.BigEndian.AppendUint16(out, uint16(len(p.Key)))
		out = binary.BigEndian.AppendUint32(out, uint32(len(p.Value)))
		out = append(append(out, p.Key...), p.Value...)
	}
	return string(out)
}

// line writes an entry.
func line(hash string, offset int) string {
	return hash + string(binary.BigEndian.AppendUint32(nil, uint32(offset)))
}

func short(x any) string {
	text := fmt.Sprintf("%q", x)
	if len(text) > 120 {
		return fmt.Sprintf("%s.. (%d bytes)", text[:100], len(text))
	}
	return text
}

func numbers(t *testing.T, n, width int, want string, errno api.Errno) {
	t.Helper()
	if got, e := Number(n, width); got != want || e != errno {
		t.Errorf("Number(%d, %d) = %q, %d, want %q, %d", n, width, got, e, want, errno)
	}
}

func readsNumber(t *testing.T, s string, at, width, want int, errno api.Errno) {
	t.Helper()
	if got, e := ReadNumber(s, at, width); got != want || e != errno {
		t.Errorf("ReadNumber(%s, %d, %d) = %d, %d, want %d, %d", short(s), at, width, got, e, want, errno)
	}
}

func enters(t *testing.T, width int, hash string, offset int, want string, errno api.Errno) {
	t.Helper()
	if got, e := Entry(width, hash, offset); got != want || e != errno {
		t.Errorf("Entry(%d, %q, %d) = %q, %d, want %q, %d", width, hash, offset, got, e, want, errno)
	}
}

func readsEntry(t *testing.T, width int, index string, i int, hash string, offset int, errno api.Errno) {
	t.Helper()
	if h, o, e := ReadEntry(width, index, i); h != hash || o != offset || e != errno {
		t.Errorf("ReadEntry(%d, %s, %d) = %q, %d, %d, want %q, %d, %d", width, short(index), i, h, o, e, hash, offset, errno)
	}
}

func records(t *testing.T, pairs []api.Pair, want string, errno api.Errno) {
	t.Helper()
	if got, e := Record(pairs...); got != want || e != errno {
		t.Errorf("Record(%s) = %s, %d, want %s, %d", short(pairs), short(got), e, short(want), errno)
	}
}

func readsRecord(t *testing.T, data string, at int, want []api.Pair, next int, errno api.Errno) {
	t.Helper()
	got, n, e := ReadRecord(data, at)
	if fmt.Sprintf("%q", got) != fmt.Sprintf("%q", want) || n != next || e != errno {
		t.Errorf("ReadRecord(%s, %d) = %s, %d, %d, want %s, %d, %d", short(data), at, short(got), n, e, short(want), next, errno)
	}
}

func encodes(t *testing.T, width int, groups []api.Group, want api.Chunk, errno api.Errno) {
	t.Helper()
	if got, e := Encode(width, groups); got != want || e != errno {
		t.Errorf("Encode(%d, %s) = %s, %d, want %s, %d", width, short(groups), short(got), e, short(want), errno)
	}
}

func decodes(t *testing.T, width int, c api.Chunk, want []api.Group, errno api.Errno) {
	t.Helper()
	got, e := Decode(width, c)
	if fmt.Sprintf("%q", got) != fmt.Sprintf("%q", want) || e != errno {
		t.Errorf("Decode(%d, %s) = %s, %d, want %s, %d", width, short(c), short(got), e, short(want), errno)
	}
}

func looks(t *testing.T, width int, c api.Chunk, hash, key, want string, found bool, errno api.Errno) {
	t.Helper()
	if v, ok, e := Lookup(width, c, hash, key); v != want || ok != found || e != errno {
		t.Errorf("Lookup(%d, %s, %q, %s) = %s, %v, %d, want %s, %v, %d", width, short(c), hash, short(key), short(v), ok, e, short(want), found, errno)
	}
}

// made is the chunk of groups that may be.
func made(t *testing.T, width int, groups ...api.Group) api.Chunk {
	t.Helper()
	c, e := Encode(width, groups)
	if e != api.OK {
		t.Fatalf("Encode(%d, %s): %d", width, short(groups), e)
	}
	return c
}
