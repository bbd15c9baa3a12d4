package record

import (
	"fmt"
	"strings"
	"testing"

	"granary/api"
)

// P3.1

func TestNumberAtEachWidth(t *testing.T) {
	tops := []string{"\xff", "\xff\xff", "\xff\xff\xff", "\xff\xff\xff\xff"}
	for i, top := range tops {
		width := i + 1
		numbers(t, 0, width, strings.Repeat("\x00", width), api.OK)
		numbers(t, 1, width, strings.Repeat("\x00", i)+"\x01", api.OK)
		numbers(t, 1<<(8*width)-1, width, top, api.OK)
		numbers(t, 1<<(8*width), width, "", api.ErrNumber)
		numbers(t, most, width, "", api.ErrNumber)
		numbers(t, -1, width, "", api.ErrNumber)
		numbers(t, least, width, "", api.ErrNumber)
	}
	numbers(t, 0x01020304, 4, "\x01\x02\x03\x04", api.OK)
	numbers(t, 0x020304, 3, "\x02\x03\x04", api.OK)
	numbers(t, 1<<32+5, 1, "", api.ErrNumber)
	numbers(t, 1<<40, 4, "", api.ErrNumber)
}

func TestNumberOfNoWidth(t *testing.T) {
	for _, width := range []int{0, 5, -1, 8, most, least} {
		numbers(t, 0, width, "", api.ErrWidth)
		numbers(t, -1, width, "", api.ErrWidth)
		numbers(t, most, width, "", api.ErrWidth)
	}
}

// P3.2

func TestReadNumberAtEachWidth(t *testing.T) {
	s := "\x01\x02\x03\x04\xff\xff\xff\xff"
	for width, want := range map[int]int{1: 0x01, 2: 0x0102, 3: 0x010203, 4: 0x01020304} {
		readsNumber(t, s, 0, width, want, api.OK)
		readsNumber(t, s, 4, width, 1<<(8*width)-1, api.OK)
		readsNumber(t, s, 8-width, width, 1<<(8*width)-1, api.OK)
		readsNumber(t, s, 9-width, width, 0, api.ErrArg)
		readsNumber(t, s[:width], 0, width, want, api.OK)
		readsNumber(t, s[:width-1], 0, width, 0, api.ErrArg)
		readsNumber(t, s, most, width, 0, api.ErrArg)
		readsNumber(t, s, most-width+1, width, 0, api.ErrArg)
		readsNumber(t, s, -1, width, 0, api.ErrArg)
		readsNumber(t, s, least, width, 0, api.ErrArg)
		readsNumber(t, "", 0, width, 0, api.ErrArg)
		readsNumber(t, "", -width, width, 0, api.ErrArg)
	}
}

func TestReadNumberOfNoWidth(t *testing.T) {
	for _, width := range []int{0, 5, -1, most, least} {
		readsNumber(t, "0123456789", 0, width, 0, api.ErrWidth)
		readsNumber(t, "", -1, width, 0, api.ErrWidth)
	}
}

func TestReadNumberReadsWhatNumberWrites(t *testing.T) {
	d := dice(1)
	for range 2000 {
		width := 1 + d.roll(4)
		n := d.roll(1<<31-1)*3%(1<<32) + d.roll(2)
		n %= 1 << (8 * width)
		s, e := Number(n, width)
		if e != api.OK || len(s) != width {
			t.Fatalf("Number(%d, %d) = %q, %d", n, width, s, e)
		}
		ahead := d.bytes(d.roll(4))
		readsNumber(t, ahead+s+d.bytes(d.roll(4)), len(ahead), width, n, api.OK)
	}
}

// P3.3

func TestEntryAtEachWidth(t *testing.T) {
	for width := 1; width <= api.MaxWidth; width++ {
		hash := "0123456789abcdefg"[:width]
		enters(t, width, hash, 0, hash+"\x00\x00\x00\x00", api.OK)
		enters(t, width, hash, 0x01020304, hash+"\x01\x02\x03\x04", api.OK)
		enters(t, width, hash, 4294967295, hash+"\xff\xff\xff\xff", api.OK)
		enters(t, width, hash, 4294967296, "", api.ErrNumber)
		enters(t, width, hash, most, "", api.ErrNumber)
		enters(t, width, hash, -1, "", api.ErrNumber)
		enters(t, width, hash, least, "", api.ErrNumber)
		enters(t, width, hash+"x", 0, "", api.ErrHash)
		enters(t, width, hash[1:], 0, "", api.ErrHash)
	}
}

func TestEntryTellsTheFirstError(t *testing.T) {
	for _, width := range []int{0, -1, api.MaxWidth + 1, most, least} {
		enters(t, width, "", -1, "", api.ErrWidth)
		enters(t, width, strings.Repeat("h", api.MaxWidth+1), 0, "", api.ErrWidth)
	}
	enters(t, 3, "", -1, "", api.ErrHash)
	enters(t, 3, "abcd", 1<<32, "", api.ErrHash)
}

// P3.4

func TestReadEntryReadsWhatEntryWrites(t *testing.T) {
	for width := 1; width <= api.MaxWidth; width++ {
		index := ""
		for i := range 5 {
			index += line(strings.Repeat(string(rune('e'-i)), width), 1000*i+4294960000) // falling: that is not looked at
		}
		for i := range 5 {
			readsEntry(t, width, index, i, strings.Repeat(string(rune('e'-i)), width), 1000*i+4294960000, api.OK)
		}
		for _, i := range []int{-1, 5, 6, most, least, most/(width+4) + 1} {
			readsEntry(t, width, index, i, "", 0, api.ErrArg)
		}
	}
}

func TestReadEntryTellsTheFirstError(t *testing.T) {
	for _, width := range []int{0, -1, -4, -3, api.MaxWidth + 1, most, least} {
		readsEntry(t, width, "abc", -1, "", 0, api.ErrWidth)
		readsEntry(t, width, "", 0, "", 0, api.ErrWidth)
	}
	for n := 1; n < 30; n++ {
		want := api.ErrIndex
		if n%7 == 0 {
			want = api.ErrArg
		}
		readsEntry(t, 3, strings.Repeat("x", n), -1, "", 0, want)
		readsEntry(t, 3, strings.Repeat("x", n), n/7, "", 0, want)
	}
	readsEntry(t, 16, "", 0, "", 0, api.ErrArg)
	readsEntry(t, 16, "", -1, "", 0, api.ErrArg)
}

// P3.5

func TestRecordWritesCountLengthsKeysAndValues(t *testing.T) {
	records(t, pp("a", "", "b", "x"), "\x00\x02\x00\x01\x00\x00\x00\x00a\x00\x01\x00\x00\x00\x01bx", api.OK)
	records(t, pp("\x00", "\xff", "\x00\x00", "", "a\xff", "1", "b", "2"), "\x00\x04\x00\x01\x00\x00\x00\x01\x00\xff\x00\x02\x00\x00\x00\x00\x00\x00\x00\x02\x00\x00\x00\x01a\xff1\x00\x01\x00\x00\x00\x01b2", api.OK)
	records(t, pp(longKey, longValue), "\x00\x01\x00\xff\x00\x00\x10\x00"+longKey+longValue, api.OK)
	records(t, []api.Pair{}, "", api.ErrGroup)
}

func TestRecordAtItsLimits(t *testing.T) {
	records(t, many(api.MaxPairs, "v"), raw(api.MaxPairs, many(api.MaxPairs, "v")...), api.OK)
	records(t, many(api.MaxPairs+1, "v"), "", api.ErrGroup)
	records(t, pp(longKey, "v"), raw(1, pp(longKey, "v")...), api.OK)
	records(t, pp(longKey+"k", "v"), "", api.ErrKey)
	records(t, pp("k", longValue), raw(1, pp("k", longValue)...), api.OK)
	records(t, pp("k", longValue+"v"), "", api.ErrValue)

	full := filling(t, api.MaxData)
	s, e := Record(full...)
	is(t, "the error of a full record", e, api.OK)
	is(t, "the size of a full record", len(s), api.MaxData)
	is(t, "a full record", s == raw(len(full), full...), true)
	records(t, filling(t, api.MaxData+1), "", api.ErrBig)
	records(t, many(api.MaxPairs, longValue), "", api.ErrBig)
}

func TestRecordTellsTheFirstError(t *testing.T) {
	bad := map[string][]api.Pair{"no key": pp("", longValue+"v"), "long key": pp(longKey+"k", longValue+"v")}
	for what, pairs := range bad {
		if _, e := Record(pairs...); e != api.ErrKey {
			t.Errorf("%s and a long value: %d", what, e)
		}
	}
	records(t, append(many(api.MaxPairs, ""), pp("", "")...), "", api.ErrGroup)    // too many ahead of a key
	records(t, pp("b", "", "b", longValue+"v"), "", api.ErrValue)                  // a value ahead of a twin
	records(t, pp("b", "", "a", longValue+"v"), "", api.ErrValue)                  // a value ahead of the order
	records(t, pp("b", "", "", ""), "", api.ErrKey)                                // a key ahead of the order
	records(t, pp("b", "", "a", "", "", ""), "", api.ErrSorted)                    // the first pair that has one
	records(t, pp("b", "", "b", "", "a", ""), "", api.ErrTwin)                     //
	records(t, pp("b", "", "c", "", "b", ""), "", api.ErrSorted)                   // a twin further ahead is none
	records(t, pp("k", longValue+"v", "", ""), "", api.ErrValue)                   //
	records(t, append(filling(t, api.MaxData), pp("0", "")...), "", api.ErrSorted) // a pair's ahead of the size
	records(t, append(filling(t, api.MaxData), pp("", "")...), "", api.ErrKey)
	records(t, append(filling(t, api.MaxData), pp("z", "")...), "", api.ErrBig)
}

func TestRecordOrdersByBytes(t *testing.T) {
	records(t, pp("a", "", "a\x00", ""), raw(2, pp("a", "", "a\x00", "")...), api.OK)
	records(t, pp("a\x00", "", "a", ""), "", api.ErrSorted)
	records(t, pp("\x7f", "", "\x80", ""), raw(2, pp("\x7f", "", "\x80", "")...), api.OK)
	records(t, pp("\x80", "", "\x7f", ""), "", api.ErrSorted)
	records(t, pp("aa", "", "b", ""), raw(2, pp("aa", "", "b", "")...), api.OK)
	records(t, pp("Z", "", "a", ""), raw(2, pp("Z", "", "a", "")...), api.OK)
}

// P3.6

func TestReadRecordAtEachPlace(t *testing.T) {
	pairs := pp("\x00", "\x00\x01", "a", "")
	one := raw(2, pairs...)
	for ahead := range 4 {
		for behind := range 4 {
			data := strings.Repeat("\x00", ahead) + one + strings.Repeat("\x01", behind)
			readsRecord(t, data, ahead, pairs, ahead+len(one), api.OK)
			readsRecord(t, data, len(data), nil, 0, api.ErrData)
			for _, at := range []int{-1, len(data) + 1, most, least} {
				readsRecord(t, data, at, nil, 0, api.ErrArg)
			}
		}
	}
	readsRecord(t, one+one, len(one), pairs, 2*len(one), api.OK)
}

func TestReadRecordRefusesWhatIsCutOff(t *testing.T) {
	one := raw(3, pp("a", "12", "b", "", "cc", "3")...)
	for n := range len(one) {
		readsRecord(t, one[:n], 0, nil, 0, api.ErrData)
		readsRecord(t, "--"+one[:n], 2, nil, 0, api.ErrData)
	}
}

func TestReadRecordRefusesWhatRecordDoes(t *testing.T) {
	tail := strings.Repeat("t", 10)
	for what, data := range map[string]string{
		"no pair":     raw(0),
		"many pairs":  raw(api.MaxPairs+1, many(api.MaxPairs+1, "")...),
		"all counts":  raw(65535, many(4095, "")...),
		"no key":      raw(1, pp("", "v")...),
		"long key":    raw(1, pp(longKey+"k", "v")...),
		"long value":  raw(1, pp("k", longValue+"v")...),
		"twins":       raw(2, pp("a", "", "a", "")...),
		"falling":     raw(2, pp("b", "", "a", "")...),
		"big":         raw(len(filling(t, api.MaxData+1)), filling(t, api.MaxData+1)...),
		"huge value":  "\x00\x01\x00\x01\xff\xff\xff\xffkv",
		"huge key":    "\x00\x01\xff\xff\x00\x00\x00\x00kv",
		"both huge":   "\x00\x01\xff\xff\xff\xff\xff\xffkv",
		"a pair less": "\x00\x02\x00\x01\x00\x00\x00\x00k",
	} {
		if got, next, e := ReadRecord(data, 0); len(got) != 0 || next != 0 || e != api.ErrData {
			t.Errorf("%s: %s, %d, %d", what, short(got), next, e)
		}
		if got, next, e := ReadRecord(tail+data+tail, 10); len(got) != 0 || next != 0 || e != api.ErrData {
			t.Errorf("%s, amid others: %s, %d, %d", what, short(got), next, e)
		}
	}
}

func TestReadRecordAtItsLimits(t *testing.T) {
	for _, pairs := range [][]api.Pair{many(api.MaxPairs, "v"), pp(longKey, longValue), filling(t, api.MaxData)} {
		one := raw(len(pairs), pairs...)
		readsRecord(t, one, 0, pairs, len(one), api.OK)
		readsRecord(t, one+one, len(one), pairs, 2*len(one), api.OK)
	}
}

// P3.7

func TestEncodePutsRecordsAndEntries(t *testing.T) {
	for width := 1; width <= api.MaxWidth; width++ {
		pad := strings.Repeat("\x00", width-1)
		groups := []api.Group{group(pad+"\x00", "a", "1", "b", "2"), group(pad+"\x01", "a", "3"), group("\xff"+pad, longKey, longValue)}
		first, second, third := raw(2, groups[0].Pairs...), raw(1, groups[1].Pairs...), raw(1, groups[2].Pairs...)
		index := line(groups[0].Hash, 0) + line(groups[1].Hash, len(first)) + line(groups[2].Hash, len(first)+len(second))
		encodes(t, width, groups, chunk(index, first+second+third), api.OK)
	}
	encodes(t, 1, []api.Group{}, api.Chunk{}, api.OK)
}

func TestEncodeTellsTheFirstError(t *testing.T) {
	good := group("m", "k", "v")
	for _, width := range []int{0, -1, api.MaxWidth + 1, most, least} {
		encodes(t, width, []api.Group{group("")}, api.Chunk{}, api.ErrWidth)
		encodes(t, width, nil, api.Chunk{}, api.ErrWidth)
	}
	for want, groups := range map[api.Errno][]api.Group{
		api.ErrHash:   {good, group("aa")},                    // ahead of the order and of the pairs
		api.ErrSorted: {good, group("a")},                     // ahead of the pairs
		api.ErrGroup:  {good, group("n"), group("")},          // the first group that has one
		api.ErrKey:    {good, group("n", "", ""), group("a")}, //
		api.ErrValue:  {good, group("n", "k", longValue+"v")},
		api.ErrTwin:   {good, group("n", "k", "", "k", "")},
		api.ErrBig:    {good, {Hash: "n", Pairs: filling(t, api.MaxData+1)}, group("")},
	} {
		encodes(t, 1, groups, api.Chunk{}, want)
	}
	encodes(t, 1, []api.Group{good, group("n", "b", "", "a", "")}, api.Chunk{}, api.ErrSorted)
	encodes(t, 1, []api.Group{good, group("m", "k", "v")}, api.Chunk{}, api.ErrSorted)
	encodes(t, 1, []api.Group{group("")}, api.Chunk{}, api.ErrHash)
	encodes(t, 1, []api.Group{group("a")}, api.Chunk{}, api.ErrGroup)

	full := api.Group{Hash: "b", Pairs: filling(t, api.MaxData)}
	encodes(t, 1, []api.Group{full, good, group("zz")}, api.Chunk{}, api.ErrHash) // a group's ahead of the size of all
	encodes(t, 1, []api.Group{full, good, group("n")}, api.Chunk{}, api.ErrGroup)
	encodes(t, 1, []api.Group{full, good}, api.Chunk{}, api.ErrBig)
}

func TestEncodeAtItsLimits(t *testing.T) {
	one := raw(1, pp("k", "")...)
	full := []api.Group{group("a", "k", ""), {Hash: "b", Pairs: filling(t, api.MaxData-len(one))}}
	c := made(t, 1, full...)
	is(t, "the size of a full chunk", len(c.Data), api.MaxData)
	decodes(t, 1, c, full, api.OK)
	full[0] = group("a", "k", "v")
	encodes(t, 1, full, api.Chunk{}, api.ErrBig)
	alone := []api.Group{{Hash: "a", Pairs: filling(t, api.MaxData)}}
	decodes(t, 1, made(t, 1, alone...), alone, api.OK)
	encodes(t, api.MaxWidth, []api.Group{group("0123456789abcdef", "k", "")}, chunk("0123456789abcdef\x00\x00\x00\x00", one), api.OK)
}

// Groups whose records together fill far more than the memory are refused all the same.
func TestEncodeOfVeryManyGroups(t *testing.T) {
	shared := filling(t, api.MaxData)
	var groups []api.Group
	for i := range 1 << 20 {
		groups = append(groups, api.Group{Hash: string([]byte{byte(i >> 16), byte(i >> 8), byte(i)}), Pairs: shared})
	}
	encodes(t, 3, groups, api.Chunk{}, api.ErrBig)
}

// P3.8

func TestDecodeGivesGroupsBack(t *testing.T) {
	for width := 1; width <= api.MaxWidth; width++ {
		var groups []api.Group
		for i := range 100 {
			hash := strings.Repeat("h", width-1) + string([]byte{byte(2 * i)})
			groups = append(groups, api.Group{Hash: hash, Pairs: many(i%7+1, strings.Repeat("v", i%5))})
		}
		decodes(t, width, made(t, width, groups...), groups, api.OK)
	}
}

func TestDecodeTellsTheIndexAheadOfTheData(t *testing.T) {
	one := raw(1, pp("k", "v")...)
	for _, width := range []int{0, -1, -5, api.MaxWidth + 1, most, least} {
		decodes(t, width, chunk("x", "x"), nil, api.ErrWidth)
		decodes(t, width, api.Chunk{}, nil, api.ErrWidth)
	}
	two := line("aa", 0) + line("ab", len(one))
	decodes(t, 2, chunk(two, one+one), []api.Group{group("aa", "k", "v"), group("ab", "k", "v")}, api.OK)
	for n := range two {
		if n%6 != 0 {
			decodes(t, 2, chunk(two[:n], "x"), nil, api.ErrIndex)
		}
	}
	decodes(t, 2, chunk(line("ab", 0)+line("aa", len(one)), one+one), nil, api.ErrIndex)
	decodes(t, 2, chunk(line("aa", 0)+line("aa", len(one)), one+one), nil, api.ErrIndex)
	decodes(t, 2, chunk(line("aa", 7)+line("aa", 9), "x"), nil, api.ErrIndex)
	decodes(t, 2, chunk(line("aa", 0)+line("ac", 99)+line("ab", 5), one), nil, api.ErrIndex)
	decodes(t, 2, chunk(line("b", 0)+line("a", 0), one), nil, api.ErrIndex) // two entries of width 1 are one of width 6
	decodes(t, 6, chunk(line("b", 0)+line("a", 0), one), []api.Group{group(line("b", 0)+"a", "k", "v")}, api.OK)
}

func TestDecodeHoldsOffsetsAgainstRecords(t *testing.T) {
	one, other := raw(1, pp("k", "v")...), raw(1, pp("long", "value")...)
	for _, index := range []string{
		line("a", 1), line("a", 4294967295), line("a", len(one)), // no entry of the record at 0
		line("a", 0) + line("b", 0),
		line("a", 0) + line("b", len(one)+1),
		line("a", 0) + line("b", len(one)-1),
		line("a", 0) + line("b", 4294967295),
		line("a", len(one)) + line("b", 0),
		line("a", 0) + line("b", len(one)) + line("c", len(one)+len(other)),
		line("a", 0) + line("b", len(one)) + line("c", len(one)),
		line("a", 0), line("a", len(one)), "",
	} {
		decodes(t, 1, chunk(index, one+other), nil, api.ErrData)
	}
	decodes(t, 1, chunk(line("a", 0)+line("b", len(one)), one+other), []api.Group{group("a", "k", "v"), group("b", "long", "value")}, api.OK)
	decodes(t, 1, chunk(line("a", 0), ""), nil, api.ErrData)
	decodes(t, 1, chunk(line("a", 1), "x"+one), nil, api.ErrData)
}

func TestDecodeRefusesMoreThanAChunkHolds(t *testing.T) {
	one := raw(1, pp("k", "")...)
	rest := filling(t, api.MaxData-len(one)+1)
	data := one + raw(len(rest), rest...)
	is(t, "the size", len(data), api.MaxData+1)
	decodes(t, 1, chunk(line("a", 0)+line("b", len(one)), data), nil, api.ErrData)
	decodes(t, 1, chunk(line("b", 0)+line("a", len(one)), data), nil, api.ErrIndex)
	decodes(t, 1, chunk("", strings.Repeat("x", 1<<20)), nil, api.ErrData)
}

// P3.9

func TestLookupFindsEachKeyAndNoOther(t *testing.T) {
	var groups []api.Group
	for i := range 40 {
		groups = append(groups, api.Group{Hash: string([]byte{'h', byte(3*i + 1)}), Pairs: many(i%9+1, fmt.Sprint("v", i))})
	}
	c := made(t, 2, groups...)
	for i, g := range groups {
		for _, p := range g.Pairs {
			looks(t, 2, c, g.Hash, p.Key, fmt.Sprint("v", i), true, api.OK)
			looks(t, 2, c, g.Hash, p.Key+"x", "", false, api.OK)
			looks(t, 2, c, string([]byte{'h', byte(3 * i)}), p.Key, "", false, api.OK)
		}
		looks(t, 2, c, g.Hash, fmt.Sprintf("%03x", len(g.Pairs)), "", false, api.OK)
		looks(t, 2, c, g.Hash, "\x00", "", false, api.OK)
		looks(t, 2, c, g.Hash, "\xff", "", false, api.OK)
	}
	for _, hash := range []string{"\x00\x00", "\xff\xff", "g\xff", "i\x00"} {
		looks(t, 2, c, hash, "000", "", false, api.OK)
	}
}

func TestLookupTellsKeysOfOneHashApart(t *testing.T) {
	c := made(t, 2, group("hh", "a", "1", "b", "", "c", "3"), group("hi", "b", "4"))
	looks(t, 2, c, "hh", "a", "1", true, api.OK)
	looks(t, 2, c, "hh", "b", "", true, api.OK)
	looks(t, 2, c, "hh", "c", "3", true, api.OK)
	looks(t, 2, c, "hi", "b", "4", true, api.OK)
	looks(t, 2, c, "hi", "a", "", false, api.OK)
	looks(t, 2, c, "hh", "d", "", false, api.OK)
}

func TestLookupTellsTheFirstError(t *testing.T) {
	c := made(t, 1, group("a", longKey, "v"))
	looks(t, 0, c, "", "", "", false, api.ErrWidth)
	looks(t, 1, chunk(c.Index+"x", "x"), "", "", "", false, api.ErrIndex)
	looks(t, 1, chunk(c.Index, c.Data+"x"), "", "", "", false, api.ErrData)
	looks(t, 1, chunk(c.Index, c.Data[1:]), "a", longKey, "", false, api.ErrData)
	looks(t, 1, c, "", "", "", false, api.ErrHash)
	looks(t, 1, c, "ab", longKey+"k", "", false, api.ErrHash)
	looks(t, 1, c, "a", "", "", false, api.ErrKey)
	looks(t, 1, c, "b", "", "", false, api.ErrKey)
	looks(t, 1, c, "a", longKey+"k", "", false, api.ErrKey)
	looks(t, 1, c, "a", longKey, "v", true, api.OK)
	looks(t, 1, api.Chunk{}, "a", "k", "", false, api.OK)
	looks(t, 1, api.Chunk{}, "", "k", "", false, api.ErrHash)
	looks(t, 1, api.Chunk{}, "a", "", "", false, api.ErrKey)
}

// P3.10, and what the chapter says of lists

func TestWhatIsHandedInStays(t *testing.T) {
	room := pp("a", "1", "b", "2", "spare", "room")
	groups := []api.Group{{Hash: "g", Pairs: room[:2]}, {Hash: "h", Pairs: room[1:2]}, group("spare", "x", "y")}
	before := fmt.Sprintf("%q %q", room, groups)
	if _, e := Record(room[:2]...); e != api.OK {
		t.Errorf("Record: %d", e)
	}
	if _, e := Encode(1, groups[:2]); e != api.OK {
		t.Errorf("Encode: %d", e)
	}
	Record(room...)
	Encode(1, groups)
	is(t, "what was handed in", fmt.Sprintf("%q %q", room, groups), before)
}

func TestListsOfAnswersShareNoMemory(t *testing.T) {
	groups := []api.Group{group("g", "a", "1", "b", "2", "c", "3"), group("h", "d", "4"), group("i", "e", "5", "f", "6")}
	c := made(t, 1, groups...)
	first, _ := Decode(1, c)
	second, _ := Decode(1, c)
	for i := range first {
		first[i].Pairs = spoil(first[i].Pairs)
		if i+1 < len(first) {
			is(t, "the next group", short(first[i+1].Pairs), short(groups[i+1].Pairs))
		}
	}
	for i := range first {
		first[i].Hash = "spoilt"
	}
	_ = append(first, group("spoilt"))[:cap(first)]
	is(t, "the other answer", short(second), short(groups))
	decodes(t, 1, c, groups, api.OK)

	pairs, _, _ := ReadRecord(c.Data, 0)
	again, _, _ := ReadRecord(c.Data, 0)
	spoil(pairs)
	is(t, "the other pairs", short(again), short(groups[0].Pairs))
}

// spoil writes into a list and into the room behind it.
func spoil(list []api.Pair) []api.Pair {
	list = append(list, api.Pair{Key: "spoilt"})
	list = list[:cap(list)]
	for i := range list {
		list[i] = api.Pair{Key: "spoilt", Value: "spoilt"}
	}
	return list
}
