package digest

import (
	"strings"
	"testing"

	"granary/api"
)

const (
	most    = int(^uint(0) >> 1)
	least   = -most - 1
	ofEmpty = "d41d8cd98f00b204e9800998ecf8427e"
)

func is[T comparable](t *testing.T, what string, got, want T) {
	t.Helper()
	if got != want {
		t.Errorf("%s: %v, want %v", what, got, want)
	}
}

// dice are numbers that are the same in every run.
type dice uint64

func (d *dice) roll(n int) int {
	*d = *d*6364136223846793005 + 1442695040888963407
	return int(uint64(*d)>>33) % n
}

// bytes are so many bytes of any value.
func (d *dice) bytes(n int) string {
	out := make([]byte, n)
	for i := range out {
		out[i] = byte(d.roll(256))
	}
	return string(out)
}

// cut is a text in parts, empty ones among them.
func (d *dice) cut(text string) []string {
	var parts []string
	for text != "" {
		n := d.roll(min(len(text), 100) + 1)
		parts = append(parts, text[:n])
		text = text[n:]
	}
	return append(parts, "")
}

// edges are the lengths at which a block, or the room for the length at its end, is just filled.
func edges() []int {
	return []int{0, 1, 2, 3, 4, 7, 8, 54, 55, 56, 57, 62, 63, 64, 65, 66, 118, 119, 120, 121, 127, 128, 129, 183, 184, 191, 192, 193, 1000, 4095, 4096, 65536, 1<<20 + 1}
}

func joins(t *testing.T, first, second, length, want int, errno api.Errno) {
	t.Helper()
	got, e := CRCJoin(first, second, length)
	if got != want || e != errno {
		t.Errorf("CRCJoin(%d, %d, %d) = %d, %d, want %d, %d", first, second, length, got, e, want, errno)
	}
}

// after is what n times eight steps make of a word.
func after(t *testing.T, word, n int) int {
	t.Helper()
	got, e := CRCJoin(word, 0, n)
	if e != api.OK {
		t.Errorf("CRCJoin(%d, 0, %d): %d", word, n, e)
	}
	return got
}

func unhexes(t *testing.T, text, want string, errno api.Errno) {
	t.Helper()
	got, e := Unhex(text)
	if got != want || e != errno {
		t.Errorf("Unhex(%.40q) = %.40q, %d, want %.40q, %d", text, got, e, want, errno)
	}
}

// sums holds what a Hasher tells against the text that has come to it.
func sums(t *testing.T, h *Hasher, text string) {
	t.Helper()
	is(t, "the running MD5", Hex(h.MD5()), Hex(MD5(text)))
	is(t, "the running CRC", h.CRC(), CRC(text))
	is(t, "the count", h.Count(), len(text))
}

func repeated(part string, n int) string { return strings.Repeat(part, n) }
