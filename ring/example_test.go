package ring

import (
	"slices"
	"strings"
	"testing"

	"granary/api"
)

// The chapter's examples, by their numbers.

func TestExample1(t *testing.T) {
	text, e := Print(east())
	is(t, "Print(E)", e, api.OK)
	is(t, "it begins with these lines", strings.HasPrefix(text, "store east\nreplicas 2\nwidth 1\nchunks 2\n"), true)
	is(t, "lines", strings.Count(text, "\n"), 25)
	is(t, "the text", text, eastText)
	reads(t, text, east())

	lines := eastLines()
	slices.Reverse(lines[:22])
	reads(t, joined(lines), east())
	reads(t, "# a word\n\n"+strings.Join(lines, "\n\n# a word\n")+"\n\n", east())
}

func TestExample2(t *testing.T) {
	refuses(t, line(3, "width 1", "width 1"), api.ErrTwice, 4)
	refuses(t, line(3), api.ErrLacks, 0)
	for _, wrong := range []string{"width 01", "width", "width 1 1", "width 1 ", "Width 1", "width 10000000000"} {
		refuses(t, line(3, wrong), api.ErrText, 3)
	}
	refuses(t, "", api.ErrLacks, 0)
}

func TestExample3(t *testing.T) {
	refuses(t, line(24, "node 2 zone 0 parts 1"), api.ErrText, 24)
	four := east()
	four.Nodes = append(four.Nodes, api.NodeDef{})
	reads(t, eastText+"node 3 zone 0 parts\n", four)
	refuses(t, eastText+"node 3 zone 0 parts \n", api.ErrText, 26)
}

func TestExample4(t *testing.T) {
	refuses(t, line(3, "width 0"), api.ErrSetting, 0)
	refuses(t, line(3, "width 17"), api.ErrSetting, 0)
	refuses(t, line(6, "block 65"), api.ErrSetting, 0)
	lines := eastLines()
	lines[0], lines[2] = "store East", "width 0"
	refuses(t, joined(lines), api.ErrName, 0)
	refuses(t, line(22, "home 8"), api.ErrSetting, 0)
	refuses(t, line(25, "node 2 zone 8 parts 3"), api.ErrNodes, 0)
	refuses(t, line(23, "node 0 zone 0 parts 0 4"), api.ErrParts, 0)
	refuses(t, line(23, "node 0 zone 0 parts 2 0"), api.ErrParts, 0)
	refuses(t, line(2, "replicas 4"), api.ErrCopies, 0)
	lines = eastLines()
	lines[3], lines[24] = "chunks 16", "node 2 zone 1 parts 3 4 5 6 7 8 9 10 11 12 13 14 15 16"
	refuses(t, joined(lines), api.ErrBig, 0)
}

func TestExample5(t *testing.T) {
	walks(t, east(), 0, api.OK, 0, 1)
	walks(t, east(), 1, api.OK, 1, 2)
	walks(t, east(), 2, api.OK, 2, 3)
	walks(t, east(), 3, api.OK, 3, 0)
	walks(t, east(), 4, api.ErrPart)
	walks(t, east(), -1, api.ErrPart)
}

func TestExample6(t *testing.T) {
	owns(t, east(), 0, api.OK, 0, 1)
	owns(t, east(), 1, api.OK, 1, 0)
	owns(t, east(), 2, api.OK, 0, 2)
	owns(t, east(), 3, api.OK, 2, 0)
}

func TestExample7(t *testing.T) {
	holds(t, east(), 0, api.OK, api.Slot{Part: 0, Replica: 0}, api.Slot{Part: 1, Replica: 1}, api.Slot{Part: 2, Replica: 0}, api.Slot{Part: 3, Replica: 1})
	holds(t, east(), 1, api.OK, api.Slot{Part: 0, Replica: 1}, api.Slot{Part: 1, Replica: 0})
	holds(t, east(), 2, api.OK, api.Slot{Part: 2, Replica: 1}, api.Slot{Part: 3, Replica: 0})
	holds(t, east(), 3, api.ErrNode)
}

func TestExample8(t *testing.T) {
	has(t, east(), 2, api.OK, "2_1_0.data", "2_1_0.index", "2_1_1.data", "2_1_1.index", "3_0_0.data", "3_0_0.index", "3_0_1.data", "3_0_1.index")
}

func TestExample9(t *testing.T) {
	locates(t, east(), "abc", api.Place{Part: 0x90015098 % 4, Chunk: 0x3cd24fb0 % 2, Hash: "\x72"}, api.OK)
	locates(t, east(), "abc", api.Place{Part: 0, Chunk: 0, Hash: "r"}, api.OK)
	locates(t, east(), "", api.Place{}, api.ErrKey)
}

func TestExample10(t *testing.T) {
	named(t, api.File{Part: 3, Chunk: 11}, "3_0_11.index", api.OK)
	named(t, api.File{Part: 64, Data: true}, "", api.ErrArg)
	readsName(t, "3_0_11.index", api.File{Part: 3, Chunk: 11}, api.OK)
	for _, name := range []string{"03_0_1.data", "3_0_1", "3_16_1.data", "3_0_1.Data", ""} {
		readsName(t, name, api.File{}, api.ErrName)
	}
}

// What README.md shows.
func TestReadme(t *testing.T) {
	text := eastText
	c, e, at := Parse(text)
	is(t, "Parse", e, api.OK)
	is(t, "its line", at, 0)
	text, e = Print(c)
	is(t, "Print", e, api.OK)
	_, e, at = Parse(text + "widht 1\n")
	is(t, "a wrong line's error", e, api.ErrText)
	is(t, "and its number", at, 26)
	p, e := Locate(c, "plum")
	is(t, "Locate", e, api.OK)
	is(t, "the place", p, api.Place{Part: 3, Chunk: 1, Hash: "\xb4"})
	owners, e := Owners(c, p.Part)
	is(t, "Owners", e, api.OK)
	is(t, "the owners", slices.Equal(owners, []int{2, 0}), true)
	names, e := Files(c, 2)
	is(t, "Files", e, api.OK)
	is(t, "their number", len(names), 8)
	is(t, "the first", names[0], "2_1_0.data")
	f, e := ReadName(names[0])
	is(t, "ReadName", e, api.OK)
	is(t, "the file", f, api.File{Part: 2, Replica: 1, Chunk: 0, Data: true})
}
