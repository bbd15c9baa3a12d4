package paper

import (
	"crypto/md5"
	"fmt"
	"hash/crc32"
	"slices"
	"strings"
	"testing"

	"granary/api"
)

const (
	most  = int(^uint(0) >> 1)
	least = -most - 1

	sixteen   = "0123456789abcdef" // bytes of some MD5
	sixteenAs = "30313233343536373839616263646566"
)

func is[T comparable](t *testing.T, what string, got, want T) {
	t.Helper()
	if got != want {
		t.Errorf("%s: %v, want %v", what, got, want)
	}
}

// dice are numbers that are the same in every run.
type dice uint64

func (d *dice) roll(n int) int {
	*d = *d*6364136223846793005 + 1442695040888963407
	return int(uint64(*d)>>33) % n
}

func (d *dice) chance() bool { return d.roll(2) == 0 }

func crc(text string) int { return int(crc32.ChecksumIEEE([]byte(text))) }

// resealed is lines, each with its line feed, with the line of their sum behind them.
func resealed(lines string) string { return lines + fmt.Sprintf("sum %08x\n", crc(lines)) }

func paperOf(lines ...string) string { return resealed(strings.Join(lines, "\n") + "\n") }

// noteOf is words, each with its blank, with their sum behind them.
func noteOf(words string) string { return words + fmt.Sprintf("%08x\n", crc(words)) }

// with is a list in which the line number i (from 0 on) is another one.
func with(lines []string, i int, line string) []string {
	out := slices.Clone(lines)
	out[i] = line
	return out
}

func pointerLines() []string {
	return []string{"granary latest 1", "cur 7", "prev 6", "epoch 3", "seq 1"}
}

func goodPointer() api.Pointer { return api.Pointer{Cur: 7, Prev: 6, Epoch: 3, Seq: 1} }

func metaLines() []string {
	return []string{"granary meta 1", "store east", "version 1", "node 0", "parts 4", "replicas 2", "width 1", "chunks 2", "rows 3"}
}

func goodMeta() api.Meta {
	return api.Meta{Store: "east", Version: 1, Node: 0, Parts: 4, Replicas: 2, Width: 1, Chunks: 2, Rows: 3}
}

func row(name, data string) api.FileRow {
	sum := md5.Sum([]byte(data))
	return api.FileRow{Name: name, Size: len(data), Crc: crc(data), Md5: string(sum[:])}
}

func rowLine(r api.FileRow) string {
	return fmt.Sprintf("file %s %d %08x %x", r.Name, r.Size, r.Crc, r.Md5)
}

// goodManifest has three files, one of them without bytes.
func goodManifest() api.Manifest {
	return api.Manifest{Store: "east", Version: 12, Node: 3, Total: 20, Whole: crc("hellosome more bytes"),
		Files: []api.FileRow{row("0_0_0.data", "hello"), row("0_0_0.index", ""), row("meta", "some more bytes")}}
}

// manifestLines writes a manifest, whether it may be printed or not, without the line of its sum.
func manifestLines(m api.Manifest) []string {
	lines := []string{"granary manifest 1", "store " + m.Store, fmt.Sprint("version ", m.Version), fmt.Sprint("node ", m.Node), fmt.Sprint("files ", len(m.Files))}
	for _, r := range m.Files {
		lines = append(lines, rowLine(r))
	}
	return append(lines, fmt.Sprint("total ", m.Total), fmt.Sprintf("whole %08x", m.Whole))
}

// many is a manifest of so many files without bytes.
func many(n int) api.Manifest {
	m := api.Manifest{Store: "e", Version: 1}
	for i := range n {
		m.Files = append(m.Files, api.FileRow{Name: fmt.Sprintf("f%05d", i), Md5: sixteen})
	}
	return m
}

func short(x string) string {
	text := fmt.Sprintf("%q", x)
	if len(text) > 400 {
		return fmt.Sprintf("%s.. (%d bytes)", text[:300], len(text))
	}
	return text
}

func printsMeta(t *testing.T, m api.Meta, want string, errno api.Errno) {
	t.Helper()
	if got, e := PrintMeta(m); got != want || e != errno {
		t.Errorf("PrintMeta(%+v) = %s, %d, want %s, %d", m, short(got), e, short(want), errno)
	}
}

func readsMeta(t *testing.T, text string, want api.Meta, errno api.Errno) {
	t.Helper()
	if got, e := ParseMeta(text); got != want || e != errno {
		t.Errorf("ParseMeta(%s) = %+v, %d, want %+v, %d", short(text), got, e, want, errno)
	}
}

func printsPointer(t *testing.T, p api.Pointer, want string, errno api.Errno) {
	t.Helper()
	if got, e := PrintPointer(p); got != want || e != errno {
		t.Errorf("PrintPointer(%+v) = %s, %d, want %s, %d", p, short(got), e, short(want), errno)
	}
}

func readsPointer(t *testing.T, text string, want api.Pointer, errno api.Errno) {
	t.Helper()
	if got, e := ParsePointer(text); got != want || e != errno {
		t.Errorf("ParsePointer(%s) = %+v, %d, want %+v, %d", short(text), got, e, want, errno)
	}
}

func printsManifest(t *testing.T, m api.Manifest, want string, errno api.Errno) {
	t.Helper()
	if got, e := PrintManifest(m); got != want || e != errno {
		t.Errorf("PrintManifest(%s) = %s, %d, want %s, %d", shown(m), short(got), e, short(want), errno)
	}
}

func readsManifest(t *testing.T, text string, want api.Manifest, errno api.Errno) {
	t.Helper()
	if got, e := ParseManifest(text); !same(got, want) || e != errno {
		t.Errorf("ParseManifest(%s) = %s, %d, want %s, %d", short(text), shown(got), e, shown(want), errno)
	}
}

func same(a, b api.Manifest) bool {
	return a.Store == b.Store && a.Version == b.Version && a.Node == b.Node && slices.Equal(a.Files, b.Files) && a.Total == b.Total && a.Whole == b.Whole
}

func shown(m api.Manifest) string { return short(fmt.Sprintf("%+v", m)) }

func printsNote(t *testing.T, n api.Note, want string, errno api.Errno) {
	t.Helper()
	if got, e := PrintNote(n); got != want || e != errno {
		t.Errorf("PrintNote(%+v) = %q, %d, want %q, %d", n, got, e, want, errno)
	}
}

func readsNotes(t *testing.T, text string, want []api.Note, size int) {
	t.Helper()
	got, n := ParseNotes(text)
	if fmt.Sprint(got) != fmt.Sprint(want) || n != size {
		t.Errorf("ParseNotes(%s) = %v, %d, want %v, %d", short(text), got, n, want, size)
	}
}

// sort is one of the three papers that are whole files: a good text's lines, and what reading a text tells, with the text that its meaning is printed as.
type sort struct {
	name  string
	lines []string
	again func(t *testing.T, text string) (string, api.Errno)
}

func sorts() []sort {
	return []sort{
		{"meta", metaLines(), metaAgain},
		{"manifest", manifestLines(goodManifest()), manifestAgain},
		{"pointer", pointerLines(), pointerAgain},
	}
}

func metaAgain(t *testing.T, text string) (string, api.Errno) {
	t.Helper()
	m, e := ParseMeta(text)
	if e != api.OK {
		is(t, "beside an error", m, api.Meta{})
		return "", e
	}
	return printed(t, m, PrintMeta), e
}

func pointerAgain(t *testing.T, text string) (string, api.Errno) {
	t.Helper()
	p, e := ParsePointer(text)
	if e != api.OK {
		is(t, "beside an error", p, api.Pointer{})
		return "", e
	}
	return printed(t, p, PrintPointer), e
}

func manifestAgain(t *testing.T, text string) (string, api.Errno) {
	t.Helper()
	m, e := ParseManifest(text)
	if e != api.OK {
		is(t, "nothing beside an error", same(m, api.Manifest{}), true)
		return "", e
	}
	return printed(t, m, PrintManifest), e
}

// printed is the text of what may be printed.
func printed[T any](t *testing.T, thing T, print func(T) (string, api.Errno)) string {
	t.Helper()
	text, e := print(thing)
	if e != api.OK {
		t.Errorf("%+v is not printed: %d", thing, e)
	}
	return text
}

// tells reads a text that is refused.
func (s sort) tells(t *testing.T, text string, errno api.Errno) {
	t.Helper()
	if _, e := s.again(t, text); e != errno {
		t.Errorf("%s: of %s: %d, want %d", s.name, short(text), e, errno)
	}
}

// holds reads a text that is just what its meaning is printed as.
func (s sort) holds(t *testing.T, text string) {
	t.Helper()
	if got, e := s.again(t, text); got != text || e != api.OK {
		t.Errorf("%s: of %s: %s, %d", s.name, short(text), short(got), e)
	}
}

func decimal(n int) string { return fmt.Sprint(n) }

// noteText is a note's line, whether it may be printed or not.
func noteText(n api.Note) string {
	return noteOf(fmt.Sprintf("%d %d %d %08x ", n.Kind, n.File, n.Upto, n.Crc))
}
