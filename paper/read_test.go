package paper

import (
	"fmt"
	"slices"
	"strings"
	"testing"

	"granary/api"
)

// badNumbers are words, or none, that are no number.
var badNumbers = []string{
	"", "00", "01", "007", "-1", "-0", "+1", " 1", "1 ", "1\t", "\t1", "1\r", "1x", "x1", "x", "0x1", "1e3", "1_0", "1.0", "1,0", "½", "１", "\x00", "1\x00", "/", ":", "1/", "1:",
	"12345678901234567", "10000000000000000", "00000000000000001", "99999999999999999999", "18446744073709551617", "1 2",
}

// badSums are words, or none, that are no sum.
var badSums = []string{
	"", "0", "1234567", "123456789", "0123456g", "0123456G", "ABCDEF01", "abcdefA1", "0x123456", "+1234567", "-1234567", " 12345678", "1234567 ", "12345678 ", "1234 5678", "1234567\r", "1234567/", "1234567:", "`1234567", "0000000000",
}

// P4.2

func TestGoodPapersAreRead(t *testing.T) {
	for _, s := range sorts() {
		s.holds(t, paperOf(s.lines...))
	}
	readsMeta(t, paperOf(metaLines()...), goodMeta(), api.OK)
	readsPointer(t, paperOf(pointerLines()...), goodPointer(), api.OK)
	readsManifest(t, paperOf(manifestLines(goodManifest())...), goodManifest(), api.OK)
}

// Each field of a paper is read into its own place.
func TestFieldsKeepTheirPlaces(t *testing.T) {
	readsMeta(t, paperOf("granary meta 1", "store s", "version 2", "node 3", "parts 4", "replicas 5", "width 6", "chunks 7", "rows 8"),
		api.Meta{Store: "s", Version: 2, Node: 3, Parts: 4, Replicas: 5, Width: 6, Chunks: 7, Rows: 8}, api.OK)
	readsPointer(t, paperOf("granary latest 1", "cur 1", "prev 2", "epoch 3", "seq 4"), api.Pointer{Cur: 1, Prev: 2, Epoch: 3, Seq: 4}, api.OK)
	readsManifest(t, paperOf("granary manifest 1", "store s", "version 2", "node 3", "files 1", "file f 4 00000005 "+sixteenAs, "total 4", "whole 00000005"),
		api.Manifest{Store: "s", Version: 2, Node: 3, Files: []api.FileRow{{Name: "f", Size: 4, Crc: 5, Md5: sixteen}}, Total: 4, Whole: 5}, api.OK)
}

// withBoth tries lines with the sum that fits them, and with another one.
func (s sort) withBoth(t *testing.T, lines []string, fitting, other api.Errno) {
	t.Helper()
	text := paperOf(lines...)
	s.tells(t, text, fitting)
	last := "0\n"
	if strings.HasSuffix(text, last) {
		last = "1\n"
	}
	s.tells(t, text[:len(text)-2]+last, other)
}

func TestLinesThatAreNoNumbers(t *testing.T) {
	for _, s := range sorts() {
		for i, line := range s.lines {
			word, rest, _ := strings.Cut(line, " ")
			if !strings.Contains(" version node parts replicas width chunks rows cur prev epoch seq files total ", " "+word+" ") {
				continue
			}
			for _, bad := range badNumbers {
				s.withBoth(t, with(s.lines, i, word+" "+bad), api.ErrForm, api.ErrForm)
			}
			for _, bad := range []string{word, word + rest, word + "  " + rest, " " + line, line + " ", line + " " + rest, strings.ToUpper(word) + " " + rest, word + "s " + rest, word[1:] + " " + rest, word + "\t" + rest, rest, ""} {
				s.withBoth(t, with(s.lines, i, bad), api.ErrForm, api.ErrForm)
			}
		}
	}
}

func TestNumbersBeyondTheirRanges(t *testing.T) {
	meta, pointer := sorts()[0], sorts()[2]
	for i, f := range metaSpans() {
		meta.beyond(t, i+2, f.name, f.low, f.high)
	}
	for i, f := range pointerSpans() {
		pointer.beyond(t, i+1, f.name, f.low, f.high)
	}
	manifest := sorts()[1]
	manifest.beyond(t, 2, "version", 1, 999999)
	manifest.beyond(t, 3, "node", 0, 15)
	manifest.beyond(t, 8, "total", 0, 9007199254740992)
	for _, size := range []string{"1073741825", "9007199254740992", "9007199254740993", "9999999999999999"} {
		manifest.withBoth(t, with(manifest.lines, 6, "file 0_0_0.index "+size+" 00000000 "+sixteenAs), api.ErrField, api.ErrSum)
	}
	manifest.withBoth(t, with(manifest.lines, 6, "file 0_0_0.index 1073741824 00000000 "+sixteenAs), api.ErrTotal, api.ErrSum)
}

// beyond tries what is one past a range's end, and the greatest number that has the form.
func (s sort) beyond(t *testing.T, i int, word string, low, high int) {
	t.Helper()
	for _, n := range []int{low - 1, high + 1, 9007199254740993, 9999999999999999} {
		if n >= 0 {
			s.withBoth(t, with(s.lines, i, word+" "+decimal(n)), api.ErrField, api.ErrSum)
		}
	}
}

func TestWordsThatAreNoNames(t *testing.T) {
	for _, s := range sorts()[:2] {
		for _, bad := range []string{"store", "store ", "store  east", "store east ", "store a b", "stores east", "Store east", " store east", "store\teast", "", "east", "store \n"} {
			s.withBoth(t, with(s.lines, 1, bad), api.ErrForm, api.ErrForm)
		}
		for _, bad := range []string{"East", "1a", "-a", "a_b", "a\tb", "a\x00", "\xff\xfe", "é", "a\r", strings.Repeat("a", 41), strings.Repeat("a", 5000)} {
			s.withBoth(t, with(s.lines, 1, "store "+bad), api.ErrField, api.ErrSum)
		}
	}
}

func TestTitles(t *testing.T) {
	for _, s := range sorts() {
		for _, title := range []string{"granary meta 1", "granary manifest 1", "granary latest 1", "granary meta 2", "granary manifest 2", "granary latest 2", "granary meta 10", "granary latest", "granary", "", "Granary latest 1", "granary latest 1 ", " granary latest 1", "granary pointer 1", "latest 1", "granary latest 01", "granary latest 11", "granary  latest 1", "granary meta 01", "granary manifest 11"} {
			if title != s.lines[0] {
				s.withBoth(t, with(s.lines, 0, title), api.ErrForm, api.ErrForm)
			}
		}
	}
}

func TestLinesMissingDoubledOrMoved(t *testing.T) {
	for _, s := range sorts() {
		for i, line := range s.lines {
			s.withBoth(t, slices.Delete(slices.Clone(s.lines), i, i+1), api.ErrForm, api.ErrForm)
			for j := range len(s.lines) + 1 {
				s.withBoth(t, slices.Insert(slices.Clone(s.lines), j, line), api.ErrForm, api.ErrForm)
				s.withBoth(t, slices.Insert(slices.Clone(s.lines), j, ""), api.ErrForm, api.ErrForm)
			}
			for j := range i {
				moved := slices.Clone(s.lines)
				moved[i], moved[j] = moved[j], moved[i]
				if strings.HasPrefix(moved[i], "file ") && strings.HasPrefix(moved[j], "file ") {
					s.withBoth(t, moved, api.ErrField, api.ErrSum)
				} else {
					s.withBoth(t, moved, api.ErrForm, api.ErrForm)
				}
			}
			s.withBoth(t, s.lines[:i], api.ErrForm, api.ErrForm)
			s.withBoth(t, s.lines[i+1:], api.ErrForm, api.ErrForm)
		}
	}
}

func TestTheLineOfTheSum(t *testing.T) {
	for _, s := range sorts() {
		text := paperOf(s.lines...)
		body, sum := text[:len(text)-13], text[len(text)-9:len(text)-1]
		for _, bad := range badSums {
			s.tells(t, body+"sum "+bad+"\n", api.ErrForm)
		}
		for _, line := range []string{"", "\n", "sum\n", "sum \n", "sum  " + sum + "\n", "sum " + sum, "sum " + sum + " ", "sum " + sum + " \n", "sum " + sum + "\r\n", "Sum " + sum + "\n", "SUM " + sum + "\n", "sum" + sum + "\n", " sum " + sum + "\n", sum + "\n", "sums " + sum + "\n", "sum 0" + sum + "\n", "sum " + sum + "\n\n", "sum " + sum + "\nx", "sum " + sum + "\nsum " + sum + "\n", "sum " + sum + " " + sum + "\n", "\nsum " + sum + "\n"} {
			s.tells(t, body+line, api.ErrForm)
		}
		for _, other := range []string{"00000000", "ffffffff", "0a1b2c3d", sum[1:] + sum[:1], fmt.Sprintf("%08x", crc(body+"sum ")), fmt.Sprintf("%08x", crc(body[:len(body)-1])), fmt.Sprintf("%08x", crc(text))} {
			if other != sum {
				s.tells(t, body+"sum "+other+"\n", api.ErrSum)
			}
		}
		for i := range 32 {
			s.tells(t, body+fmt.Sprintf("sum %08x\n", crc(body)^1<<i), api.ErrSum)
		}
		s.tells(t, body+"sum "+strings.ToUpper(sum)+"x\n", api.ErrForm)
	}
}

// The sum's letters, in each of its places.
func TestCapitalDigits(t *testing.T) {
	for epoch := range 300 {
		lines := with(pointerLines(), 3, "epoch "+decimal(epoch))
		text := paperOf(lines...)
		readsPointer(t, text, api.Pointer{Cur: 7, Prev: 6, Epoch: epoch, Seq: 1}, api.OK)
		for i := len(text) - 9; i < len(text)-1; i++ {
			if text[i] >= 'a' {
				readsPointer(t, text[:i]+strings.ToUpper(text[i:i+1])+text[i+1:], api.Pointer{}, api.ErrForm)
			}
		}
	}
}

func TestFileLines(t *testing.T) {
	s := sorts()[1]
	good := s.lines[6]
	words := strings.Split(good, " ")
	is(t, "words of a file's line", len(words), 5)
	for i := range words {
		s.withBoth(t, with(s.lines, 6, strings.Join(slices.Delete(slices.Clone(words), i, i+1), " ")), api.ErrForm, api.ErrForm)
		s.withBoth(t, with(s.lines, 6, strings.Join(slices.Insert(slices.Clone(words), i, words[i]), " ")), api.ErrForm, api.ErrForm)
		s.withBoth(t, with(s.lines, 6, strings.Join(slices.Insert(slices.Clone(words), i, ""), " ")), api.ErrForm, api.ErrForm)
		for j := range i {
			moved := slices.Clone(words)
			moved[i], moved[j] = moved[j], moved[i]
			if line := strings.Join(moved, " "); line != good && !(j == 1 && i == 2) {
				s.withBoth(t, with(s.lines, 6, line), api.ErrForm, api.ErrForm)
			}
		}
	}
	for _, bad := range badNumbers {
		s.withBoth(t, with(s.lines, 6, "file a "+bad+" 00000000 "+sixteenAs), api.ErrForm, api.ErrForm)
	}
	for _, bad := range badSums {
		s.withBoth(t, with(s.lines, 6, "file a 0 "+bad+" "+sixteenAs), api.ErrForm, api.ErrForm)
		s.withBoth(t, with(s.lines, 9, "whole "+bad), api.ErrForm, api.ErrForm)
	}
	for _, bad := range []string{"", sixteenAs[1:], sixteenAs + "0", sixteenAs[2:], sixteenAs + "00", strings.ToUpper("abcdef0123456789abcdef0123456789"), "g" + sixteenAs[1:], sixteenAs[:31] + "G", sixteenAs + " ", " " + sixteenAs, sixteenAs[:16] + " " + sixteenAs[16:], sixteenAs + "\r"} {
		s.withBoth(t, with(s.lines, 6, "file a 0 00000000 "+bad), api.ErrForm, api.ErrForm)
	}
	for _, bad := range []string{"File a 0 00000000 ", "files a 0 00000000 ", "file  0 00000000 ", "file a  0 00000000 ", "filea 0 00000000 ", " file a 0 00000000 "} {
		s.withBoth(t, with(s.lines, 6, bad+sixteenAs), api.ErrForm, api.ErrForm)
	}
	s.withBoth(t, with(s.lines, 6, "file A 0 00000000 "+sixteenAs), api.ErrField, api.ErrSum)
	s.withBoth(t, with(s.lines, 6, "file . 0 00000000 "+sixteenAs), api.ErrField, api.ErrSum)
}

// What `files K` says is just as many lines as there are.
func TestCountOfFiles(t *testing.T) {
	s := sorts()[1]
	for _, n := range []string{"0", "1", "2", "4", "10", "1025", "1026", "9007199254740992", "9007199254740993", "9999999999999999"} {
		s.withBoth(t, with(s.lines, 4, "files "+n), api.ErrForm, api.ErrForm)
	}
	over := manifestLines(many(1026))
	s.withBoth(t, over, api.ErrField, api.ErrSum)
	s.withBoth(t, with(over, 4, "files 1025"), api.ErrForm, api.ErrForm)
	s.withBoth(t, with(over, 4, "files 1027"), api.ErrForm, api.ErrForm)
	none := manifestLines(many(0))
	s.holds(t, paperOf(none...))
	s.withBoth(t, with(none, 4, "files 1"), api.ErrForm, api.ErrForm)
	s.withBoth(t, with(none, 4, "files"), api.ErrForm, api.ErrForm)
}

// Each error, where all that come behind it apply too.
func TestTheFirstErrorIsTold(t *testing.T) {
	s := sorts()[1]
	all := with(with(with(s.lines, 3, "node 16"), 8, "total 21"), 4, "files 2")
	s.withBoth(t, all, api.ErrForm, api.ErrForm)
	all[4] = "files 3"
	s.withBoth(t, all, api.ErrField, api.ErrSum)
	all[3] = "node 15"
	s.withBoth(t, all, api.ErrTotal, api.ErrSum)
	all[8] = "total 20"
	s.holds(t, paperOf(all...))

	for _, s := range []sort{sorts()[0], sorts()[2]} {
		last := len(s.lines) - 1
		wrong := with(with(s.lines, 1, s.lines[1]+"\x00"), last, strings.Fields(s.lines[last])[0]+" 9999999999999999")
		if s.name == "pointer" {
			wrong[1] = "cur 1000000"
		}
		s.withBoth(t, wrong, api.ErrField, api.ErrSum)
		text := paperOf(wrong...)
		s.tells(t, text+"x", api.ErrForm)
		s.tells(t, text[:len(text)-1], api.ErrForm)
	}
}

func TestOneSortIsNotAnother(t *testing.T) {
	for _, s := range sorts() {
		for _, other := range sorts() {
			if s.name != other.name {
				s.tells(t, paperOf(other.lines...), api.ErrForm)
			}
		}
		text := paperOf(s.lines...)
		s.tells(t, text+text, api.ErrForm)
		s.tells(t, noteOf("1 0 0 00000000 "), api.ErrForm)
		for _, odd := range []string{"", "\n", " ", "\x00", "granary", strings.Repeat("\n", 20), strings.Repeat("a", 100000), s.lines[0], s.lines[0] + "\n", strings.ToUpper(text), strings.ReplaceAll(text, "\n", "\r\n"), strings.ReplaceAll(text, " ", "\t"), "\ufeff" + text} {
			s.tells(t, odd, api.ErrForm)
		}
		readsNotes(t, text, nil, 0)
	}
}

// P4.3

func TestWhatIsPrintedIsReadBack(t *testing.T) {
	d := dice(43)
	for range 2000 {
		m := d.meta()
		readsMeta(t, printed(t, m, PrintMeta), m, api.OK)
		p := d.pointer()
		readsPointer(t, printed(t, p, PrintPointer), p, api.OK)
		n := d.note()
		line := printed(t, n, PrintNote)
		readsNotes(t, line, []api.Note{n}, len(line))
		f := d.manifest()
		readsManifest(t, printed(t, f, PrintManifest), f, api.OK)
	}
}

// P4.4

func TestOneByteTurnedIsTold(t *testing.T) {
	for _, s := range sorts() {
		text := paperOf(s.lines...)
		for i := range len(text) {
			for b := range 256 {
				if byte(b) == text[i] {
					continue
				}
				spoilt := text[:i] + string([]byte{byte(b)}) + text[i+1:]
				if _, e := s.again(t, spoilt); e != api.ErrForm && e != api.ErrSum {
					t.Fatalf("%s: of %q: %d", s.name, spoilt, e)
				}
			}
		}
	}
}

func TestShorterAndLongerAreTold(t *testing.T) {
	for _, s := range sorts() {
		text := paperOf(s.lines...)
		for i := range len(text) {
			s.tells(t, text[:i], api.ErrForm)
		}
		for b := range 256 {
			s.tells(t, text+string([]byte{byte(b)}), api.ErrForm)
		}
		for _, line := range s.lines {
			s.tells(t, text+line+"\n", api.ErrForm)
		}
		s.tells(t, text+text[len(text)-13:], api.ErrForm)
		s.tells(t, resealed(text), api.ErrForm)
	}
}

// P4.6

func TestWhatIsHandedInStays(t *testing.T) {
	m := goodManifest()
	room := append(slices.Clone(m.Files), row("spare", "room"), row("more", ""))
	before := slices.Clone(room)
	m.Files = room[:3]
	printed(t, m, PrintManifest)
	m.Total++
	printsManifest(t, m, "", api.ErrTotal)
	m.Version = 0
	printsManifest(t, m, "", api.ErrField)
	is(t, "the rows and the room behind them stay", slices.Equal(room, before), true)
}

func TestListsOfAnswersShareNoMemory(t *testing.T) {
	text := paperOf(manifestLines(goodManifest())...)
	first, _ := ParseManifest(text)
	second, _ := ParseManifest(text)
	spoil(first.Files, row("spoilt", "x"))
	is(t, "the other answer stays", same(second, goodManifest()), true)
	readsManifest(t, text, goodManifest(), api.OK)

	journal := noteOf("1 7 0 00000005 ") + noteOf("2 0 9 00000006 ") + noteOf("3 0 0 00000000 ")
	one, _ := ParseNotes(journal)
	two, _ := ParseNotes(journal)
	spoil(one, api.Note{Kind: 9, File: 9, Upto: 9, Crc: 9})
	want := []api.Note{{Kind: 1, File: 7, Crc: 5}, {Kind: 2, Upto: 9, Crc: 6}, {Kind: 3}}
	is(t, "the other notes stay", slices.Equal(two, want), true)
	readsNotes(t, journal, want, len(journal))
}

// spoil writes into a list and into the room behind it.
func spoil[T any](list []T, thing T) {
	list = list[:cap(list)]
	for i := range list {
		list[i] = thing
	}
}

// Texts of some millions of bytes are told apart quickly, whatever they say of themselves.
func TestHugeTexts(t *testing.T) {
	huge := strings.Repeat("9", 1<<22)
	for _, s := range sorts() {
		for i, line := range s.lines {
			word, _, _ := strings.Cut(line, " ")
			lines := with(s.lines, i, word+" "+huge)
			if word == "store" {
				s.withBoth(t, lines, api.ErrField, api.ErrSum)
			} else {
				s.withBoth(t, lines, api.ErrForm, api.ErrForm)
			}
		}
		s.tells(t, strings.Repeat("\n", 1<<22), api.ErrForm)
	}
	m := many(30000)
	readsManifest(t, paperOf(manifestLines(m)...), api.Manifest{}, api.ErrField)
	printsManifest(t, m, "", api.ErrField)
	readsNotes(t, huge, nil, 0)
	readsNotes(t, strings.Repeat(" ", 1<<22), nil, 0)
}
