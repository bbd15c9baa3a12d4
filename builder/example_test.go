package builder

import (
	"testing"

	"granary/api"
	"granary/paper"
)

// The chapter's ten examples, and that of README.md.

func TestExample1(t *testing.T) {
	j := job(1, 0, 1000, 2)
	is(t, "no pairs", Check(j, nil), api.OK)
	is(t, "Version 0 and Policy 3", Check(job(0, 3, 1000, 2), nil), api.ErrVersion)
	is(t, "Policy 3", Check(job(1, 3, 1000, 2), nil), api.ErrPolicy)
	is(t, "FanIn 17", Check(job(1, 0, 1000, 17), nil), api.ErrArg)
	is(t, "a value, then a key", Check(j, pairs("a="+text(4097), "=")), api.ErrValue)
	is(t, "513 pairs", Check(j, make([]api.Pair, 513)), api.ErrCount)
	is(t, "KeepNone", Check(job(1, 2, 1000, 2), pairs("a", "b", "a")), api.ErrRepeat)
	is(t, "KeepLast", Check(j, pairs("a", "b", "a")), api.OK)
}

func TestExample2(t *testing.T) {
	n, e := Need(east(), job(1, 0, 1000, 2), pairs("abc=grain"))
	is(t, "Need", n, 4192)
	is(t, "Need", e, api.OK)
	n, e = Need(east(), job(1, 0, 1000, 2), nil)
	is(t, "Need of no pairs", n, 4096)
	is(t, "Need of no pairs", e, api.OK)
}

func TestExample3(t *testing.T) {
	d := fresh(t, 100000)
	b := builds(t, d, east(), job(1, 0, 1000, 2), pairs("abc=grain", "abc=chaff"))
	is(t, "Built", b, api.Built{Pairs: 2, Kept: 1, Files: 38, Bytes: d.Used()})
	versionsAre(t, d, 1)
}

func TestExample4(t *testing.T) {
	d := fresh(t, 100000)
	builds(t, d, east(), job(1, 0, 1000, 2), pairs("abc=grain", "abc=chaff"))
	blockIs(t, d, 1, 0, "0_0_0.index", "r\x00\x00\x00\x00")
	blockIs(t, d, 1, 1, "0_1_0.data", "\x00\x01\x00\x03\x00\x00\x00\x05abcchaff")
	blockIs(t, d, 1, 0, "0_0_1.data", "")
	builds(t, d, east(), job(2, 1, 1000, 2), pairs("abc=grain", "abc=chaff"))
	blockIs(t, d, 2, 1, "0_1_0.data", "\x00\x01\x00\x03\x00\x00\x00\x05abcgrain")
}

func TestExample5(t *testing.T) {
	d := fresh(t, 100000)
	builds(t, d, east(), job(1, 0, 1000, 2), pairs("abc=grain", "abc=chaff"))
	for _, c := range []struct {
		version, node int
		file          string
		at, n         int
		want          string
		e             api.Errno
	}{
		{1, 0, "0_0_0.index", 2, 2, "\x00\x00", api.OK},
		{1, 0, "0_0_0.index", 5, 2, "", api.OK},
		{1, 0, "0_0_0.index", 6, 2, "", api.ErrEnd},
		{1, 0, "0_0_0.index", -1, 2, "", api.ErrArg},
		{1, 0, "0_1_0.data", 0, 2, "", api.ErrFile},
		{1, 0, "x", 0, 2, "", api.ErrFile},
		{1, 0, "a/b", 0, 2, "", api.ErrFile},
		{1, 3, "meta", 0, 2, "", api.ErrFile},
		{1, 16, "meta", 0, 2, "", api.ErrFile},
		{2, 0, "meta", 0, 2, "", api.ErrUnbuilt},
		{0, 0, "meta", 0, 2, "", api.ErrVersion},
	} {
		if got, e := Block(d, c.version, c.node, c.file, c.at, c.n); got != c.want || e != c.e {
			t.Errorf("%+v: %q, %d", c, got, e)
		}
	}
}

func TestExample6(t *testing.T) {
	d := fresh(t, 100000)
	builds(t, d, east(), job(1, 0, 1000, 2), pairs("abc=grain", "abc=chaff"))
	for node, rows := range []int{1, 1, 0} {
		meta, e := Block(d, 1, node, "meta", 0, 999)
		done(t, e)
		m, e := paper.ParseMeta(meta)
		is(t, "the meta file", e, api.OK)
		is(t, "Rows", m.Rows, rows)
	}
}

func TestExample7(t *testing.T) {
	d := fresh(t, 100000)
	builds(t, d, east(), job(1, 0, 1000, 2), pairs("abc=grain", "abc=chaff"))
	refuses(t, "a second one", d, east(), job(1, 0, 1000, 2), nil, api.ErrBuilt)
	is(t, "Drop", Drop(d, 1), api.OK)
	versionsAre(t, d)
	is(t, "what is left", lies(d), "gone-1")
	is(t, "Drop again", Drop(d, 1), api.ErrUnbuilt)
	_, e := Block(d, 1, 0, "meta", 0, 1)
	is(t, "Block", e, api.ErrUnbuilt)
	refuses(t, "behind Drop", d, east(), job(1, 0, 1000, 2), nil, api.ErrBuilt)
}

func TestExample8(t *testing.T) {
	d := fresh(t, 100000)
	builds(t, d, east(), job(1, 0, 1000, 2), nil)
	before := d.Dump()
	refuses(t, "a heavy row", d, east(), job(2, 0, 30, 2), pairs("abc=grain"), api.ErrRow)
	same(t, "the depot", d.Dump(), before)
}

func TestExample9(t *testing.T) {
	builds(t, fresh(t, 4192), east(), job(1, 0, 1000, 2), pairs("abc=grain"))
	d := fresh(t, 4191)
	refuses(t, "a byte less", d, east(), job(1, 0, 1000, 2), pairs("abc=grain"), api.ErrRoom)
	is(t, "acts", d.Acts(), 0)
}

func TestExample10(t *testing.T) {
	for _, c := range []struct {
		keep int
		lies string
		acts int
	}{{0, "", 0}, {9, "part-1 part-1/sort", 3}} {
		d := fresh(t, 100000)
		done(t, d.Arm(2))
		refuses(t, "Arm(2)", d, east(), job(1, 0, 1000, 2), pairs("abc=grain"), api.ErrDown)
		d.Crash(c.keep, c.keep)
		versionsAre(t, d)
		is(t, "behind the crash", lies(d), c.lies)
		acts := d.Acts()
		is(t, "Clean", Clean(d), api.OK)
		is(t, "the acts of Clean", d.Acts()-acts, c.acts)
		is(t, "behind Clean", lies(d), "")
	}
}

func TestReadme(t *testing.T) {
	d := fresh(t, 100000)
	j := api.Job{Version: 1, Policy: api.KeepLast, Memory: 1000, FanIn: 2}
	data := []api.Pair{{Key: "oat", Value: "old"}, {Key: "rye", Value: "new"}, {Key: "oat", Value: "new"}}
	need, e := Need(east(), j, data)
	is(t, "Need", need, 4360)
	is(t, "Need", e, api.OK)
	built := builds(t, d, east(), j, data)
	is(t, "Build", built, api.Built{Pairs: 3, Kept: 2, Files: 38, Bytes: d.Used()})
	refuses(t, "Build again", d, east(), j, nil, api.ErrBuilt)
	versionsAre(t, d, 1)
	text, e := Manifest(d, 1, 0)
	is(t, "Manifest", e, api.OK)
	_, e = paper.ParseManifest(text)
	is(t, "ParseManifest", e, api.OK)
	part, e := Block(d, 1, 0, "meta", 0, 14)
	is(t, "Block", part, "granary meta 1")
	is(t, "Block", e, api.OK)
	is(t, "Drop", Drop(d, 1), api.OK)
	is(t, "Clean", Clean(d), api.OK)
}
