package paper

import (
	"strings"
	"testing"

	"granary/api"
)

// P4.1

// span is a number's field: how it is set, and its range.
type span[T any] struct {
	name      string
	set       func(*T, int)
	low, high int
}

// edges are the ends of a range and what is one past them, or far.
func (s span[T]) edges(try func(n int, inside bool)) {
	for _, n := range []int{s.low, s.high, (s.low + s.high) / 2} {
		try(n, true)
	}
	for _, n := range []int{s.low - 1, s.high + 1, least, most, -1 << 32} {
		try(n, false)
	}
}

func metaSpans() []span[api.Meta] {
	return []span[api.Meta]{
		{"version", func(m *api.Meta, n int) { m.Version = n }, 1, 999999},
		{"node", func(m *api.Meta, n int) { m.Node = n }, 0, 15},
		{"parts", func(m *api.Meta, n int) { m.Parts = n }, 1, 64},
		{"replicas", func(m *api.Meta, n int) { m.Replicas = n }, 1, 16},
		{"width", func(m *api.Meta, n int) { m.Width = n }, 1, 16},
		{"chunks", func(m *api.Meta, n int) { m.Chunks = n }, 1, 16},
		{"rows", func(m *api.Meta, n int) { m.Rows = n }, 0, 9007199254740992},
	}
}

func pointerSpans() []span[api.Pointer] {
	return []span[api.Pointer]{
		{"cur", func(p *api.Pointer, n int) { p.Cur = n }, 0, 999999},
		{"prev", func(p *api.Pointer, n int) { p.Prev = n }, 0, 999999},
		{"epoch", func(p *api.Pointer, n int) { p.Epoch = n }, 0, 9007199254740992},
		{"seq", func(p *api.Pointer, n int) { p.Seq = n }, 0, 9007199254740992},
	}
}

func TestEachNumberOfAMeta(t *testing.T) {
	for i, s := range metaSpans() {
		s.edges(func(n int, inside bool) {
			m := goodMeta()
			s.set(&m, n)
			text := paperOf(with(metaLines(), i+2, s.name+" "+decimal(n))...)
			if inside {
				printsMeta(t, m, text, api.OK)
				readsMeta(t, text, m, api.OK)
			} else {
				printsMeta(t, m, "", api.ErrField)
			}
		})
	}
}

func TestEachNumberOfAPointer(t *testing.T) {
	for i, s := range pointerSpans() {
		s.edges(func(n int, inside bool) {
			p := goodPointer()
			s.set(&p, n)
			text := paperOf(with(pointerLines(), i+1, s.name+" "+decimal(n))...)
			if inside {
				printsPointer(t, p, text, api.OK)
				readsPointer(t, text, p, api.OK)
			} else {
				printsPointer(t, p, "", api.ErrField)
			}
		})
	}
}

func TestEachNumberOfAManifest(t *testing.T) {
	for _, s := range []span[api.Manifest]{
		{"version", func(m *api.Manifest, n int) { m.Version = n }, 1, 999999},
		{"node", func(m *api.Manifest, n int) { m.Node = n }, 0, 15},
	} {
		s.edges(func(n int, inside bool) {
			m := goodManifest()
			s.set(&m, n)
			tryManifest(t, m, inside, api.OK)
		})
	}
	for _, s := range []span[api.Manifest]{
		{"total", func(m *api.Manifest, n int) { m.Total = n }, 0, 9007199254740992},
		{"whole", func(m *api.Manifest, n int) { m.Whole = n }, 0, 4294967295},
		{"crc", func(m *api.Manifest, n int) { m.Files[1].Crc = n }, 1, 4294967295},
		{"size", func(m *api.Manifest, n int) { m.Files[1].Size = n }, 1, 1 << 30},
	} {
		s.edges(func(n int, inside bool) {
			m := goodManifest()
			s.set(&m, n)
			if s.low == 1 && n == 0 { // as it was
				return
			}
			tryManifest(t, m, inside, api.ErrTotal)
		})
	}
}

// tryManifest prints, and reads if it may be, a manifest of which a number is in its range or not.
func tryManifest(t *testing.T, m api.Manifest, inside bool, errno api.Errno) {
	t.Helper()
	switch text := paperOf(manifestLines(m)...); {
	case !inside:
		printsManifest(t, m, "", api.ErrField)
	case errno != api.OK:
		printsManifest(t, m, "", errno)
		readsManifest(t, text, api.Manifest{}, errno)
	default:
		printsManifest(t, m, text, api.OK)
		readsManifest(t, text, m, api.OK)
	}
}

func TestEachNumberOfANote(t *testing.T) {
	for _, s := range []span[api.Note]{
		{"kind", func(n *api.Note, i int) { n.Kind = i }, 1, 4},
		{"file", func(n *api.Note, i int) { n.File = i }, 0, 9007199254740992},
		{"upto", func(n *api.Note, i int) { n.Upto = i }, 0, 9007199254740992},
		{"crc", func(n *api.Note, i int) { n.Crc = i }, 0, 4294967295},
	} {
		s.edges(func(i int, inside bool) {
			n := api.Note{Kind: 2, File: 3, Upto: 70, Crc: 0xabc}
			s.set(&n, i)
			if !inside {
				printsNote(t, n, "", api.ErrField)
				return
			}
			text := noteText(n)
			printsNote(t, n, text, api.OK)
			readsNotes(t, text, []api.Note{n}, len(text))
		})
	}
}

// A store's name: what stands first, what stands behind it, how long it is.
func TestStores(t *testing.T) {
	forty := strings.Repeat("a-9z", 10)
	for _, c := range []struct {
		name string
		ok   bool
	}{
		{"a", true}, {"z", true}, {"a-", true}, {"a0", true}, {"a9", true}, {"a--", true}, {forty, true}, {"store", true},
		{"", false}, {forty + "a", false}, {"-", false}, {"0", false}, {"9a", false}, {"-a", false}, {"A", false}, {"aB", false}, {"a_b", false}, {"a.b", false},
		{"a b", false}, {" a", false}, {"a ", false}, {"a\n", false}, {"\na", false}, {"a/b", false}, {"é", false}, {"a\x00", false}, {strings.Repeat("a", 1000), false},
	} {
		tryStore(t, c.name, c.ok)
	}
	for b := range 256 {
		letter := b >= 'a' && b <= 'z'
		tryStore(t, string([]byte{byte(b)}), letter)
		tryStore(t, string([]byte{byte(b), 'a'}), letter)
		tryStore(t, string([]byte{'a', byte(b)}), letter || b >= '0' && b <= '9' || b == '-')
		tryStore(t, string([]byte{'a', byte(b), 'b'}), letter || b >= '0' && b <= '9' || b == '-')
	}
}

func tryStore(t *testing.T, store string, ok bool) {
	t.Helper()
	meta, manifest := goodMeta(), goodManifest()
	meta.Store, manifest.Store = store, store
	metaText, manifestText := paperOf(with(metaLines(), 1, "store "+store)...), paperOf(manifestLines(manifest)...)
	if ok {
		printsMeta(t, meta, metaText, api.OK)
		readsMeta(t, metaText, meta, api.OK)
		printsManifest(t, manifest, manifestText, api.OK)
		readsManifest(t, manifestText, manifest, api.OK)
		return
	}
	errno := api.ErrField
	if isNoWord(store) {
		errno = api.ErrForm
	}
	printsMeta(t, meta, "", api.ErrField)
	readsMeta(t, metaText, api.Meta{}, errno)
	printsManifest(t, manifest, "", api.ErrField)
	readsManifest(t, manifestText, api.Manifest{}, errno)
}

// isNoWord: it could not stand in a line as one word.
func isNoWord(text string) bool { return text == "" || strings.ContainsAny(text, " \n") }

func TestFilesNames(t *testing.T) {
	forty := strings.Repeat("a-9_.", 8)
	for _, c := range []struct {
		name string
		ok   bool
	}{
		{"a", true}, {"0", true}, {"-", true}, {"_", true}, {"...", true}, {".a", true}, {"..a", true}, {"a.", true}, {"0_0_0.data", true}, {forty, true}, {strings.Repeat(".", 40), true},
		{"", false}, {".", false}, {"..", false}, {forty + "a", false}, {"A", false}, {"a b", false}, {"a\nb", false}, {"a/b", false}, {"/", false}, {"\xff", false}, {"é", false}, {strings.Repeat("a", 1000), false},
	} {
		tryName(t, c.name, c.ok)
	}
	for b := range 256 {
		ok := strings.IndexByte("abcdefghijklmnopqrstuvwxyz0123456789-_.", byte(b)) >= 0
		tryName(t, string([]byte{byte(b)}), ok && b != '.')
		tryName(t, string([]byte{byte(b), 'a'}), ok)
		tryName(t, string([]byte{'a', byte(b)}), ok)
	}
}

func tryName(t *testing.T, name string, ok bool) {
	t.Helper()
	m := api.Manifest{Store: "e", Version: 1, Files: []api.FileRow{{Name: name, Md5: sixteen}}}
	text := paperOf(manifestLines(m)...)
	if ok {
		printsManifest(t, m, text, api.OK)
		readsManifest(t, text, m, api.OK)
		return
	}
	errno := api.ErrField
	if isNoWord(name) {
		errno = api.ErrForm
	}
	printsManifest(t, m, "", api.ErrField)
	readsManifest(t, text, api.Manifest{}, errno)
}

func TestFilesRise(t *testing.T) {
	for _, c := range []struct {
		names string
		ok    bool
	}{
		{"a b c", true}, {"a aa ab b", true}, {"- . 0", false}, {"- .a 0 _ a", true}, {"0_0_0.data 0_0_0.index", true}, {"10 9", true},
		{"a a", false}, {"b a", false}, {"a b b", false}, {"a c b", false}, {"b a c", false}, {"aa a", false}, {"9 10", false}, {"a b a", false}, {"a _", false},
	} {
		m := api.Manifest{Store: "e", Version: 1}
		for _, name := range strings.Fields(c.names) {
			m.Files = append(m.Files, api.FileRow{Name: name, Md5: sixteen})
		}
		text := paperOf(manifestLines(m)...)
		if c.ok {
			printsManifest(t, m, text, api.OK)
			readsManifest(t, text, m, api.OK)
		} else {
			printsManifest(t, m, "", api.ErrField)
			readsManifest(t, text, api.Manifest{}, api.ErrField)
		}
	}
}

func TestMD5IsSixteenBytes(t *testing.T) {
	for _, n := range []int{0, 1, 15, 17, 32} {
		m := goodManifest()
		m.Files[1].Md5 = strings.Repeat("m", n)
		printsManifest(t, m, "", api.ErrField)
	}
	for _, sum := range []string{strings.Repeat("\x00", 16), strings.Repeat("\xff", 16), "\x01\x23\x45\x67\x89\xab\xcd\xef\xfe\xdc\xba\x98\x76\x54\x32\x10", " \n \n \n \n \n \n \n \n"} {
		m := goodManifest()
		m.Files[1].Md5 = sum
		text := paperOf(manifestLines(m)...)
		printsManifest(t, m, text, api.OK)
		readsManifest(t, text, m, api.OK)
	}
	m := api.Manifest{Store: "e", Version: 1, Files: []api.FileRow{{Name: "a", Md5: sixteen}}}
	printsManifest(t, m, paperOf("granary manifest 1", "store e", "version 1", "node 0", "files 1", "file a 0 00000000 "+sixteenAs, "total 0", "whole 00000000"), api.OK)
}

func TestHowManyFiles(t *testing.T) {
	for _, n := range []int{0, 1, 2, 1024, 1025} {
		m := many(n)
		text := paperOf(manifestLines(m)...)
		printsManifest(t, m, text, api.OK)
		readsManifest(t, text, m, api.OK)
	}
	for _, n := range []int{1026, 2000} {
		m := many(n)
		printsManifest(t, m, "", api.ErrField)
		readsManifest(t, paperOf(manifestLines(m)...), api.Manifest{}, api.ErrField)
	}
	printsManifest(t, api.Manifest{Store: "e", Version: 1, Files: []api.FileRow{}}, paperOf(manifestLines(many(0))...), api.OK)
}

// The totals of files, by their bytes: the sum that follows from the files' sums is that of the bytes.
func TestTotals(t *testing.T) {
	for _, parts := range [][]string{
		{}, {""}, {"a"}, {"", ""}, {"a", "b"}, {"b", "a"}, {"", "a"}, {"a", ""}, {"hello", "", "world", "!"},
		{strings.Repeat("x", 70000), "\x00", strings.Repeat("\x00", 300)},
	} {
		m := api.Manifest{Store: "e", Version: 1}
		for i, data := range parts {
			m.Files = append(m.Files, row("f"+decimal(i), data))
		}
		all := strings.Join(parts, "")
		m.Total, m.Whole = len(all), crc(all)
		text := paperOf(manifestLines(m)...)
		printsManifest(t, m, text, api.OK)
		readsManifest(t, text, m, api.OK)
		for _, turn := range []func(){
			func() { m.Total++ },
			func() { m.Total -= 2 },
			func() { m.Total, m.Whole = len(all), m.Whole^1 },
			func() { m.Whole ^= 1 << 31 },
		} {
			turn()
			if m.Total < 0 {
				printsManifest(t, m, "", api.ErrField)
				continue
			}
			printsManifest(t, m, "", api.ErrTotal)
			readsManifest(t, paperOf(manifestLines(m)...), api.Manifest{}, api.ErrTotal)
		}
	}
}

// The greatest files there may be: nothing runs over.
func TestGreatestTotals(t *testing.T) {
	m := many(1025)
	for i := range m.Files {
		m.Files[i].Size = 1 << 30
	}
	m.Total = 1025 << 30
	text := paperOf(manifestLines(m)...) // sums of 0 join to 0, over whatever size
	printsManifest(t, m, text, api.OK)
	readsManifest(t, text, m, api.OK)
	m.Total--
	printsManifest(t, m, "", api.ErrTotal)
}

func TestFieldIsToldAheadOfTotals(t *testing.T) {
	for i, turn := range []func(m *api.Manifest){
		func(m *api.Manifest) { m.Store = "East" },
		func(m *api.Manifest) { m.Version = 0 },
		func(m *api.Manifest) { m.Node = 16 },
		func(m *api.Manifest) { m.Files[0].Name = "a/b" },
		func(m *api.Manifest) { m.Files[0].Size = 1<<30 + 1 },
		func(m *api.Manifest) { m.Files[2].Size = 9999999999999999 },
		func(m *api.Manifest) { m.Files[0], m.Files[2] = m.Files[2], m.Files[0] },
		func(m *api.Manifest) { m.Total = 1<<53 + 1 },
	} {
		m := goodManifest()
		m.Whole ^= 1
		printsManifest(t, m, "", api.ErrTotal)
		turn(&m)
		printsManifest(t, m, "", api.ErrField)
		if _, e := ParseManifest(paperOf(manifestLines(m)...)); e != api.ErrField {
			t.Errorf("case %d: %d", i, e)
		}
	}
	for _, turn := range []func(m *api.Manifest){
		func(m *api.Manifest) { m.Whole = -1 },
		func(m *api.Manifest) { m.Whole = 1 << 32 },
		func(m *api.Manifest) { m.Files[1].Crc = -1 },
		func(m *api.Manifest) { m.Files[1].Crc = 1 << 32 },
		func(m *api.Manifest) { m.Files[1].Size = -1 },
		func(m *api.Manifest) { m.Total = -1 },
		func(m *api.Manifest) { m.Files[1].Md5 = "" },
	} {
		m := goodManifest()
		m.Total++
		turn(&m)
		printsManifest(t, m, "", api.ErrField)
	}
}
