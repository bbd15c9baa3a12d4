package sorter

import (
	"encoding/binary"
	"fmt"
	"slices"
	"strings"
	"testing"

	"granary/api"
	"granary/disk"
)

const (
	mostInt  = int(^uint(0) >> 1)
	leastInt = -mostInt - 1
)

// depths is the deepest path that a directory may have.
const depths = "1/2/3/4/5/6/7/8"

func is[T comparable](t *testing.T, what string, got, want T) {
	t.Helper()
	if got != want {
		t.Errorf("%s: %v, want %v", what, got, want)
	}
}

func done(t *testing.T, all ...api.Errno) {
	t.Helper()
	for i, e := range all {
		if e != api.OK {
			t.Fatalf("call %d: %d", i, e)
		}
	}
}

func fresh(t *testing.T, capacity int) *disk.Disk {
	t.Helper()
	d, e := disk.New(capacity)
	done(t, e)
	return d
}

func on(t *testing.T, d *disk.Disk, dir string, memory, fan int) *Sorter {
	t.Helper()
	s, e := New(d, dir, memory, fan)
	done(t, e)
	return s
}

// made is a sorter in the directory s of a new disk.
func made(t *testing.T, capacity, memory, fan int) (*disk.Disk, *Sorter) {
	t.Helper()
	d := fresh(t, capacity)
	return d, on(t, d, "s", memory, fan)
}

// text is so many bytes.
func text(n int) string { return strings.Repeat("v", n) }

func row(hash, key, value string, seq int) api.Row {
	return api.Row{Hash: hash, Key: key, Value: value, Seq: seq}
}

// heavy adds a row of this weight, with the hash "h" and the key "k".
func heavy(s *Sorter, weight int) api.Errno { return s.Add("h", "k", text(weight-18)) }

// heavies adds rows of these weights.
func heavies(t *testing.T, s *Sorter, weights ...int) {
	t.Helper()
	for i, w := range weights {
		if e := heavy(s, w); e != api.OK {
			t.Fatalf("row %d, of the weight %d: %d", i, w, e)
		}
	}
}

// adds adds rows that have a hash alone.
func adds(t *testing.T, s *Sorter, hashes ...string) {
	t.Helper()
	for _, h := range hashes {
		done(t, s.Add(h, "", ""))
	}
}

// nextIs asks for one row, or for an error.
func nextIs(t *testing.T, s *Sorter, row api.Row, e api.Errno) {
	t.Helper()
	if got, f := s.Next(); got != row || f != e {
		t.Errorf("Next = %+v, %d, want %+v, %d", got, f, row, e)
	}
}

// givesHashes asks for all rows that are left.
func givesHashes(t *testing.T, s *Sorter, hashes ...string) {
	t.Helper()
	var got []string
	for row := range s.All() {
		got = append(got, row.Hash)
	}
	if !slices.Equal(got, hashes) {
		t.Errorf("the rows %q, want %q", got, hashes)
	}
	nextIs(t, s, api.Row{}, api.ErrEnd)
}

// refuses holds that a sorter does nothing any more but Close: each call answers ErrState, and leaves it as it was.
func refuses(t *testing.T, what string, s *Sorter) {
	t.Helper()
	peak, runs := s.Peak(), s.Runs()
	is(t, what+": Add", s.Add("", "", ""), api.ErrState)
	is(t, what+": Add of what is no row", s.Add(text(33), "", ""), api.ErrState)
	is(t, what+": Finish", s.Finish(), api.ErrState)
	nextIs(t, s, api.Row{}, api.ErrState)
	for row := range s.All() {
		t.Errorf("%s: All has %+v", what, row)
	}
	is(t, what+": Peak", s.Peak(), peak)
	is(t, what+": Runs", s.Runs(), runs)
}

// lies is what lies in the directory s: names, and sizes of files.
func lies(d *disk.Disk) string {
	var out []string
	for _, x := range d.Dump() {
		if name, ok := strings.CutPrefix(x.Path, "s/"); ok {
			out = append(out, fmt.Sprintf("%s:%d", name, len(x.Data)))
		}
	}
	return strings.Join(out, " ")
}

// bytesOf is the chapter's form of rows.
func bytesOf(rows ...api.Row) string {
	var out []byte
	for _, r := range rows {
		out = binary.BigEndian.AppendUint64(out, uint64(r.Seq))
		out = binary.BigEndian.AppendUint16(out, uint16(len(r.Hash)))
		out = binary.BigEndian.AppendUint16(out, uint16(len(r.Key)))
		out = binary.BigEndian.AppendUint32(out, uint32(len(r.Value)))
		out = append(out, r.Hash+r.Key+r.Value...)
	}
	return string(out)
}

func holds(t *testing.T, d *disk.Disk, path, want string) {
	t.Helper()
	got, e := d.Read(path, 0, mostInt)
	if got != want || e != api.OK {
		t.Errorf("%s has %q, %d, want %q", path, got, e, want)
	}
}

// down takes a disk down.
func down(t *testing.T, d *disk.Disk) {
	t.Helper()
	done(t, d.Arm(0))
	is(t, "the last act", d.SyncDir(""), api.ErrDown)
}

// dice are numbers that are the same in every run.
type dice uint64

func (d *dice) roll(n int) int {
	*d = *d*6364136223846793005 + 1442695040888963407
	return int(uint64(*d)>>33) % n
}
