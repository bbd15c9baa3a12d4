package record

import (
	"testing"

	"granary/api"
)

const (
	exampleIndex = "a\x00\x00\x00\x00b\x00\x00\x00\x0b"
	exampleData  = "\x00\x01\x00\x01\x00\x00\x00\x02kvw\x00\x01\x00\x01\x00\x00\x00\x00l"
)

func exampleGroups() []api.Group { return []api.Group{group("a", "k", "vw"), group("b", "l", "")} }

// The chapter's examples, by their numbers.

func TestExample1(t *testing.T) {
	numbers(t, 258, 2, "\x01\x02", api.OK)
	numbers(t, 258, 1, "", api.ErrNumber)
	numbers(t, 0, 4, "\x00\x00\x00\x00", api.OK)
	numbers(t, -1, 9, "", api.ErrWidth)
	numbers(t, 4294967295, 4, "\xff\xff\xff\xff", api.OK)
	numbers(t, 4294967296, 4, "", api.ErrNumber)
}

func TestExample2(t *testing.T) {
	readsNumber(t, "a\x01\x02", 1, 2, 258, api.OK)
	readsNumber(t, "ab", 3, 1, 0, api.ErrArg)
	readsNumber(t, "ab", 2, 1, 0, api.ErrArg)
	readsNumber(t, "ab", 1, 2, 0, api.ErrArg)
	readsNumber(t, "ab", -1, 1, 0, api.ErrArg)
	readsNumber(t, "ab", 9, 5, 0, api.ErrWidth)
}

func TestExample3(t *testing.T) {
	enters(t, 2, "hi", 258, "hi\x00\x00\x01\x02", api.OK)
	enters(t, 2, "h", 0, "", api.ErrHash)
	enters(t, 1, "h", -1, "", api.ErrNumber)
	enters(t, 17, "", 0, "", api.ErrWidth)
}

func TestExample4(t *testing.T) {
	readsEntry(t, 1, exampleIndex, 1, "b", 11, api.OK)
	readsEntry(t, 1, exampleIndex, 2, "", 0, api.ErrArg)
	readsEntry(t, 1, "abc", 0, "", 0, api.ErrIndex)
	readsEntry(t, 1, "", 0, "", 0, api.ErrArg)
}

func TestExample5(t *testing.T) {
	records(t, pp("k", "vw"), "\x00\x01\x00\x01\x00\x00\x00\x02kvw", api.OK)
	records(t, nil, "", api.ErrGroup)
	records(t, pp("b", "", "a", ""), "", api.ErrSorted)
	records(t, pp("a", "", "a", "x"), "", api.ErrTwin)
	records(t, pp("", ""), "", api.ErrKey)
}

func TestExample6(t *testing.T) {
	readsRecord(t, "..\x00\x01\x00\x01\x00\x00\x00\x02kvw..", 2, pp("k", "vw"), 13, api.OK)
	for _, data := range []string{"\x00\x01\x00\x01\x00\x00\x00\x02kv", "\x00\x00", "\x00\x01\x00\x00\x00\x00\x00\x00", ""} {
		readsRecord(t, data, 0, nil, 0, api.ErrData)
	}
	readsRecord(t, "", 1, nil, 0, api.ErrArg)
}

func TestExample7(t *testing.T) {
	g := exampleGroups()
	encodes(t, 1, g, chunk(exampleIndex, exampleData), api.OK)
	encodes(t, 1, []api.Group{g[1], g[0]}, api.Chunk{}, api.ErrSorted)
	encodes(t, 1, []api.Group{g[0], g[0]}, api.Chunk{}, api.ErrSorted)
	encodes(t, 1, []api.Group{group("ab", "k", "vw"), g[1]}, api.Chunk{}, api.ErrHash)
}

func TestExample8(t *testing.T) {
	decodes(t, 1, chunk(exampleIndex, exampleData), exampleGroups(), api.OK)
	decodes(t, 1, chunk(exampleIndex, exampleData+"x"), nil, api.ErrData)
	decodes(t, 1, chunk(exampleIndex, exampleData[:len(exampleData)-1]), nil, api.ErrData)
	decodes(t, 1, chunk(exampleIndex[:5], exampleData), nil, api.ErrData)
	decodes(t, 1, chunk(exampleIndex[:9]+"\x0c", exampleData), nil, api.ErrData)
	decodes(t, 1, chunk("b"+exampleIndex[1:], exampleData), nil, api.ErrIndex)
	decodes(t, 1, chunk(exampleIndex+"x", exampleData), nil, api.ErrIndex)
}

func TestExample9(t *testing.T) {
	c := chunk(exampleIndex, exampleData)
	looks(t, 1, c, "a", "k", "vw", true, api.OK)
	looks(t, 1, c, "b", "k", "", false, api.OK)
	looks(t, 1, c, "c", "k", "", false, api.OK)
	looks(t, 1, c, "ab", "k", "", false, api.ErrHash)
	looks(t, 1, c, "a", "", "", false, api.ErrKey)
}

func TestExample10(t *testing.T) {
	encodes(t, 4, nil, api.Chunk{}, api.OK)
	decodes(t, 4, api.Chunk{}, nil, api.OK)
	decodes(t, 4, chunk("", "x"), nil, api.ErrData)
	encodes(t, 0, nil, api.Chunk{}, api.ErrWidth)
}

// TestReadme is the example that README.md shows.
func TestReadme(t *testing.T) {
	c, e := Encode(2, []api.Group{
		{Hash: "h1", Pairs: []api.Pair{{Key: "kiwi", Value: "green"}, {Key: "plum", Value: "blue"}}},
		{Hash: "h2", Pairs: []api.Pair{{Key: "fig", Value: ""}}},
	})
	is(t, "Encode", e, api.OK)
	looks(t, 2, c, "h1", "plum", "blue", true, api.OK)
	looks(t, 2, c, "h2", "plum", "", false, api.OK)
	decodes(t, 2, chunk(c.Index, c.Data[1:]), nil, api.ErrData)
}
