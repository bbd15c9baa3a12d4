package paper

import (
	"fmt"
	"strings"
	"testing"

	"granary/api"
)

// The chapter's examples, by their numbers.

func TestExample1(t *testing.T) {
	text := paperOf("granary latest 1", "cur 7", "prev 6", "epoch 3", "seq 1")
	printsPointer(t, api.Pointer{Cur: 7, Prev: 6, Epoch: 3, Seq: 1}, text, api.OK)
	readsPointer(t, text, api.Pointer{Cur: 7, Prev: 6, Epoch: 3, Seq: 1}, api.OK)
}

func TestExample2(t *testing.T) {
	printsPointer(t, api.Pointer{Cur: 1000000}, "", api.ErrField)
	printsPointer(t, api.Pointer{Epoch: -1}, "", api.ErrField)
	printsPointer(t, api.Pointer{Epoch: 9007199254740993}, "", api.ErrField)
	printsPointer(t, api.Pointer{Epoch: 9007199254740992}, paperOf("granary latest 1", "cur 0", "prev 0", "epoch 9007199254740992", "seq 0"), api.OK)
}

func TestExample3(t *testing.T) {
	lines := pointerLines()
	for _, line := range []string{"cur 07", "cur  7", "cur -7", "cur", "Cur 7", "cur 12345678901234567"} {
		text := paperOf(with(lines, 1, line)...)
		readsPointer(t, text, api.Pointer{}, api.ErrForm)
		readsPointer(t, strings.Replace(paperOf(lines...), "cur 7", line, 1), api.Pointer{}, api.ErrForm)
		readsPointer(t, text[:len(text)-9]+"00000000\n", api.Pointer{}, api.ErrForm)
	}
	text := paperOf(lines...)
	readsPointer(t, strings.Replace(text, "cur 7", "cur 8", 1), api.Pointer{}, api.ErrSum)
	readsPointer(t, paperOf(with(lines, 1, "cur 1000000")...), api.Pointer{}, api.ErrField)
	readsPointer(t, text[:len(text)-1], api.Pointer{}, api.ErrForm)
	readsPointer(t, text+"\n", api.Pointer{}, api.ErrForm)
	sum := text[len(text)-9 : len(text)-1]
	if strings.ToUpper(sum) == sum {
		t.Fatalf("the sum %s has no letters", sum)
	}
	readsPointer(t, strings.Replace(text, sum, strings.ToUpper(sum), 1), api.Pointer{}, api.ErrForm)
}

func TestExample4(t *testing.T) {
	readsPointer(t, "", api.Pointer{}, api.ErrForm)
	readsPointer(t, paperOf(metaLines()...), api.Pointer{}, api.ErrForm)
	readsMeta(t, paperOf(pointerLines()...), api.Meta{}, api.ErrForm)
}

func TestExample5(t *testing.T) {
	text := paperOf("granary manifest 1", "store east", "version 1", "node 0", "files 0", "total 0", "whole 00000000")
	printsManifest(t, api.Manifest{Store: "east", Version: 1}, text, api.OK)
	readsManifest(t, text, api.Manifest{Store: "east", Version: 1}, api.OK)
	is(t, "lines", strings.Count(text, "\n"), 8)
}

func TestExample6(t *testing.T) {
	of := func(total, whole int, files ...api.FileRow) api.Manifest {
		return api.Manifest{Store: "east", Version: 1, Files: files, Total: total, Whole: whole}
	}
	file := func(name string, size, sum int) api.FileRow {
		return api.FileRow{Name: name, Size: size, Crc: sum, Md5: sixteen}
	}
	for _, m := range []api.Manifest{of(0, 0, file("a", 0, 0)), of(0, 5, file("a", 0, 5))} {
		printsManifest(t, m, paperOf(manifestLines(m)...), api.OK)
	}
	printsManifest(t, of(0, 0, file("a", 0, 5)), "", api.ErrTotal)
	printsManifest(t, of(8, 5, file("a", 9, 5)), "", api.ErrTotal)
	printsManifest(t, of(9, 5, file("a", 9, 5)), paperOf(manifestLines(of(9, 5, file("a", 9, 5)))...), api.OK)
	printsManifest(t, of(0, 0, file("b", 0, 0), file("a", 0, 0)), "", api.ErrField)
	printsManifest(t, of(0, 0, file("a", 0, 0), file("a", 0, 0)), "", api.ErrField)
	printsManifest(t, of(0, 0, file("..", 0, 0)), "", api.ErrField)
	printsManifest(t, of(0, 0, file("A", 0, 0)), "", api.ErrField)
	printsManifest(t, of(0, 0, api.FileRow{Name: "a", Md5: sixteen[1:]}), "", api.ErrField)
}

func TestExample7(t *testing.T) {
	text := paperOf("granary meta 1", "store east", "version 1", "node 0", "parts 4", "replicas 2", "width 1", "chunks 2", "rows 3")
	printsMeta(t, goodMeta(), text, api.OK)
	lines := strings.SplitAfter(text, "\n")
	is(t, "lines", len(lines)-1, 10)
	is(t, "the second", lines[1], "store east\n")
	is(t, "the ninth", lines[8], "rows 3\n")
	for _, turn := range []func(m *api.Meta){
		func(m *api.Meta) { m.Store = "East" },
		func(m *api.Meta) { m.Store = "" },
		func(m *api.Meta) { m.Store = "1a" },
		func(m *api.Meta) { m.Store = strings.Repeat("a", 41) },
		func(m *api.Meta) { m.Version = 0 },
		func(m *api.Meta) { m.Node = 16 },
		func(m *api.Meta) { m.Parts = 0 },
		func(m *api.Meta) { m.Width = 17 },
	} {
		m := goodMeta()
		turn(&m)
		printsMeta(t, m, "", api.ErrField)
	}
}

func TestExample8(t *testing.T) {
	printsNote(t, api.Note{Kind: 2, File: 1, Upto: 64, Crc: 255}, fmt.Sprintf("2 1 64 000000ff %08x\n", crc("2 1 64 000000ff ")), api.OK)
	printsNote(t, api.Note{Kind: 5}, "", api.ErrField)
	printsNote(t, api.Note{Kind: 1, Crc: 4294967296}, "", api.ErrField)
}

func TestExample9(t *testing.T) {
	a, b, c := noteOf("2 1 64 000000ff "), noteOf("3 1 0 00000000 "), noteOf("4 0 0 00000000 ")
	notes := []api.Note{{Kind: 2, File: 1, Upto: 64, Crc: 255}, {Kind: 3, File: 1}}
	readsNotes(t, a+b+c[:len(c)/2], notes, len(a+b))
	readsNotes(t, "1"+a[1:]+b+c[:len(c)/2], nil, 0)
	readsNotes(t, a+"\n"+b, notes[:1], len(a))
}

func TestExample10(t *testing.T) {
	readsNotes(t, "", nil, 0)
	readsNotes(t, noteOf("5 0 0 00000000 "), nil, 0)
}

// TestReadme is the example that README.md shows.
func TestReadme(t *testing.T) {
	text, e := PrintPointer(api.Pointer{Cur: 7, Prev: 6, Epoch: 3, Seq: 1})
	is(t, "PrintPointer", e, api.OK)
	is(t, "the text", text, "granary latest 1\ncur 7\nprev 6\nepoch 3\nseq 1\nsum 122a85e3\n")
	readsPointer(t, text, api.Pointer{Cur: 7, Prev: 6, Epoch: 3, Seq: 1}, api.OK)
	readsPointer(t, strings.Replace(text, "cur 7", "cur 8", 1), api.Pointer{}, api.ErrSum)

	one, _ := PrintNote(api.Note{Kind: api.NoteBlock, File: 1, Upto: 64, Crc: 255})
	readsNotes(t, one+one[:5], []api.Note{{Kind: api.NoteBlock, File: 1, Upto: 64, Crc: 255}}, len(one))
}
