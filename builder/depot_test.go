package builder

import (
	"fmt"
	"slices"
	"strings"
	"testing"

	"granary/api"
	"granary/disk"
)

// nearly are names in the root that are not this layer's, for a name's beginning.
func nearly(begin string) []string {
	var list []string
	for _, end := range []string{"", "0", "00", "01", "012", "1000000", "1234567", "99999999999999999999", "x", "1x", "x1", "1.", "1-", "-1", "1_0", ".1"} {
		list = append(list, begin+end)
	}
	return append(list, "x"+begin+"1", strings.TrimSuffix(begin, "-")+"1", strings.TrimSuffix(begin, "-"), begin[1:]+"1", strings.TrimSuffix(begin, "-")+"_1", "1")
}

// P8.8

func TestVersions(t *testing.T) {
	d := fresh(t, 100000)
	versionsAre(t, d)
	for _, v := range []int{10, 2, 999999, 1, 9, 100} {
		put(t, d, fmt.Sprintf("build-%d/", v), "")
	}
	versionsAre(t, d, 1, 2, 9, 10, 100, 999999)
	for i, name := range nearly("build-") {
		put(t, d, name+strings.Repeat("/", i%2), "")
	}
	put(t, d, "build-3", "a file")
	put(t, d, "part-4/build-5/", "")
	put(t, d, "gone-6/", "")
	put(t, d, "part-7/", "")
	put(t, d, "build-8/node-0/meta", "x")
	acts := d.Acts()
	versionsAre(t, d, 1, 2, 8, 9, 10, 100, 999999)
	is(t, "acts", d.Acts(), acts)
	list, e := Versions(down(t, d))
	is(t, "down", e, api.ErrDown)
	is(t, "down", len(list), 0)
	list, e = Versions(nil)
	is(t, "no disk", e, api.ErrNil)
	is(t, "no disk", len(list), 0)
}

// P8.9, P8.10

// looked is a depot with versions 1 (built) and 12 (made by hand).
func looked(t *testing.T) *disk.Disk {
	t.Helper()
	d := fresh(t, 100000)
	builds(t, d, east(), easy(1), pairs("abc=chaff"))
	put(t, d, "build-12/node-0/manifest", "")
	put(t, d, "build-12/node-1/manifest/x", "")
	put(t, d, "build-12/node-2", "a file")
	put(t, d, "build-12/node-15/manifest", "last")
	put(t, d, "build-12/node-15/63_15_15.data", "0123456789")
	put(t, d, "build-12/node-15/meta/", "")
	put(t, d, "build-12/node-16/manifest", "none")
	put(t, d, "build-12/node-03/manifest", "none")
	put(t, d, "build-12/node-15/latest", "not ours")
	put(t, d, "build-13", "a file")
	put(t, d, "part-14/node-0/manifest", "not yet")
	put(t, d, "gone-15/node-0/manifest", "no more")
	return d
}

func TestManifest(t *testing.T) {
	d := looked(t)
	_, papers := plainVersion(east(), easy(1), pairs("abc=chaff"))
	for _, c := range []struct {
		version, node int
		want          string
		e             api.Errno
	}{
		{1, 0, papers[1].data, api.OK},
		{1, 1, papers[3].data, api.OK},
		{1, 2, papers[5].data, api.OK},
		{1, 3, "", api.ErrFile},
		{12, 0, "", api.OK},
		{12, 1, "", api.ErrFile},
		{12, 2, "", api.ErrFile},
		{12, 3, "", api.ErrFile},
		{12, 15, "last", api.OK},
		{12, 16, "", api.ErrFile},
		{12, -1, "", api.ErrFile},
		{12, mostInt, "", api.ErrFile},
		{12, leastInt, "", api.ErrFile},
		{13, 0, "", api.ErrUnbuilt},
		{14, 0, "", api.ErrUnbuilt},
		{15, 0, "", api.ErrUnbuilt},
		{2, 16, "", api.ErrFile},
		{2, -1, "", api.ErrFile},
		{999999, 0, "", api.ErrUnbuilt},
		{1000000, 16, "", api.ErrVersion},
		{0, 16, "", api.ErrVersion},
		{-1, 0, "", api.ErrVersion},
		{leastInt, 0, "", api.ErrVersion},
		{mostInt, 0, "", api.ErrVersion},
	} {
		acts := d.Acts()
		if got, e := Manifest(d, c.version, c.node); got != c.want || e != c.e {
			t.Errorf("%+v: %q, %d", c, got, e)
		}
		is(t, "acts", d.Acts(), acts)
	}
	for _, c := range []struct {
		d             *disk.Disk
		version, node int
		e             api.Errno
	}{
		{nil, 0, 16, api.ErrNil},
		{nil, 1, 0, api.ErrNil},
		{down(t, d), 0, 16, api.ErrVersion},
		{d, 1, 16, api.ErrFile},
		{d, 1, 0, api.ErrDown},
		{d, 2, 0, api.ErrDown},
	} {
		got, e := Manifest(c.d, c.version, c.node)
		is(t, fmt.Sprintf("%+v", c), e, c.e)
		is(t, fmt.Sprintf("%+v", c), got, "")
	}
}

func TestBlock(t *testing.T) {
	d := looked(t)
	for _, c := range []struct {
		version, node int
		file          string
		at, n         int
		want          string
		e             api.Errno
	}{
		{12, 15, "63_15_15.data", 0, 10, "0123456789", api.OK},
		{12, 15, "63_15_15.data", 0, 9, "012345678", api.OK},
		{12, 15, "63_15_15.data", 0, 11, "0123456789", api.OK},
		{12, 15, "63_15_15.data", 3, 4, "3456", api.OK},
		{12, 15, "63_15_15.data", 3, 0, "", api.OK},
		{12, 15, "63_15_15.data", 9, 1, "9", api.OK},
		{12, 15, "63_15_15.data", 9, mostInt, "9", api.OK},
		{12, 15, "63_15_15.data", 10, mostInt, "", api.OK},
		{12, 15, "63_15_15.data", 10, 0, "", api.OK},
		{12, 15, "63_15_15.data", 11, 0, "", api.ErrEnd},
		{12, 15, "63_15_15.data", mostInt, mostInt, "", api.ErrEnd},
		{12, 15, "63_15_15.data", -1, 1, "", api.ErrArg},
		{12, 15, "63_15_15.data", 1, -1, "", api.ErrArg},
		{12, 15, "63_15_15.data", leastInt, leastInt, "", api.ErrArg},
		{12, 15, "63_15_15.data", 11, -1, "", api.ErrArg},
		{12, 15, "63_15_15.index", 0, 1, "", api.ErrFile},
		{12, 15, "63_15_15.index", 0, -1, "", api.ErrArg},
		{12, 15, "manifest", 1, 2, "as", api.OK},
		{12, 15, "meta", 0, 1, "", api.ErrFile},
		{12, 15, "latest", 0, 1, "", api.ErrFile},
		{12, 2, "meta", 0, 1, "", api.ErrFile},
		{12, 16, "manifest", 0, 1, "", api.ErrFile},
		{12, 3, "manifest", 0, 1, "", api.ErrFile},
		{1, 0, "meta", 0, 14, "granary meta 1", api.OK},
		{1, 0, "manifest", 0, 18, "granary manifest 1", api.OK},
		{1, 0, "0_0_0.index", 0, 1, "r", api.OK},
		{1, 1, "0_0_0.index", 0, 1, "", api.ErrFile},
		{2, 0, "meta", 0, -1, "", api.ErrArg},
		{2, 0, "meta", -1, 0, "", api.ErrArg},
		{2, 0, "meta", 0, 1, "", api.ErrUnbuilt},
		{2, 0, "Meta", 0, 1, "", api.ErrFile},
		{2, 16, "meta", 0, -1, "", api.ErrFile},
		{2, -1, "meta", 0, -1, "", api.ErrFile},
		{2, 0, "x", -1, -1, "", api.ErrFile},
		{13, 0, "meta", 0, 1, "", api.ErrUnbuilt},
		{14, 0, "manifest", 0, 1, "", api.ErrUnbuilt},
		{0, 16, "x", -1, -1, "", api.ErrVersion},
		{1000000, 16, "x", -1, -1, "", api.ErrVersion},
		{mostInt, 0, "meta", 0, 0, "", api.ErrVersion},
		{leastInt, 0, "meta", 0, 0, "", api.ErrVersion},
	} {
		acts := d.Acts()
		if got, e := Block(d, c.version, c.node, c.file, c.at, c.n); got != c.want || e != c.e {
			t.Errorf("%+v: %q, %d", c, got, e)
		}
		is(t, "acts", d.Acts(), acts)
	}
}

func TestBlockNames(t *testing.T) {
	d := looked(t)
	for _, name := range []string{"", ".", "..", "/", "x", "Meta", "meta ", "meta/", "/meta", "metas", "met", "manifest.", "manifest/x", "../node-0/meta", "./meta", "0_0_0", "0_0_0.Data", "0_0_0.data ", "00_0_0.data", "64_0_0.data", "0_16_0.data", "0_0_16.data", "0_0_0_0.data", "-1_0_0.data", "a/b", "0_0_0.data/x", "\x00", text(5000)} {
		for _, version := range []int{1, 2} {
			got, e := Block(d, version, 0, name, 0, 1)
			is(t, name, e, api.ErrFile)
			is(t, name, got, "")
		}
	}
	for _, name := range []string{"meta", "manifest", "0_0_0.index", "63_15_15.data", "10_3_12.index"} {
		_, e := Block(d, 2, 0, name, 0, 1)
		is(t, name, e, api.ErrUnbuilt)
		_, e = Block(nil, 0, 16, name, -1, -1)
		is(t, name, e, api.ErrNil)
	}
	down(t, d)
	for _, c := range []struct {
		version, node int
		file          string
		at            int
		e             api.Errno
	}{{0, 16, "x", -1, api.ErrVersion}, {1, 16, "meta", -1, api.ErrFile}, {1, 0, "x", -1, api.ErrFile}, {1, 0, "meta", -1, api.ErrArg}, {1, 0, "meta", 0, api.ErrDown}, {2, 0, "meta", 0, api.ErrDown}} {
		_, e := Block(d, c.version, c.node, c.file, c.at, 1)
		is(t, fmt.Sprintf("down: %+v", c), e, c.e)
	}
}

// TestBlocksAreAll: a file is the same in blocks of any size.
func TestBlocksAreAll(t *testing.T) {
	d := fresh(t, 100000)
	builds(t, d, east(), easy(1), numbered(100))
	chunks, papers := plainVersion(east(), easy(1), numbered(100))
	for _, f := range append(chunks, papers...) {
		for _, size := range []int{1, 7, 64, 5000} {
			var got string
			for at := 0; ; at += size {
				s, e := Block(d, 1, f.node, f.name, at, size)
				if e != api.OK || s == "" {
					break
				}
				got += s
			}
			is(t, f.name, got, f.data)
		}
	}
}

// P8.11

// cluttered is a depot with much that Clean takes away, and much that it leaves.
func cluttered(t *testing.T) *disk.Disk {
	t.Helper()
	d := fresh(t, 1<<20)
	for i, begin := range []string{"part-", "build-", "gone-"} {
		for k, name := range nearly(begin) {
			if _, e := d.Kind(name); e == api.ErrNone {
				put(t, d, name+[]string{"", "/", "/f"}[(i+k)%3], "x")
			}
		}
	}
	put(t, d, "build-2/part-3/f", "stays")
	put(t, d, "gone-2/", "")
	put(t, d, "part-2/b", "1")
	put(t, d, "part-2/a/z/1/2/3/4/5", "deep")
	put(t, d, "part-2/a-b", "3")
	put(t, d, "part-2/a/b/", "")
	put(t, d, "part-10", "a file")
	put(t, d, "part-999999/", "")
	return d
}

// cluttersOrder is what Clean takes away of a cluttered depot, in its order.
func cluttersOrder() []string {
	return []string{
		"part-10",
		"part-2/a/b", "part-2/a/z/1/2/3/4/5", "part-2/a/z/1/2/3/4", "part-2/a/z/1/2/3", "part-2/a/z/1/2", "part-2/a/z/1", "part-2/a/z", "part-2/a",
		"part-2/a-b", "part-2/b", "part-2",
		"part-999999",
	}
}

func TestClean(t *testing.T) {
	want := cluttersOrder()
	all := cluttered(t).Dump()
	for k := range len(want) + 2 {
		d := cluttered(t)
		is(t, "pending", d.Pending(), 0)
		acts := d.Acts()
		done(t, d.Arm(k))
		e := Clean(d)
		gone := want[:min(k, len(want))]
		left := slices.DeleteFunc(slices.Clone(all), func(x api.Stored) bool { return slices.Contains(gone, x.Path) })
		same(t, fmt.Sprintf("behind %d acts", k), d.Dump(), left)
		if k <= len(want) {
			is(t, "down", e, api.ErrDown)
			continue
		}
		is(t, "Clean", e, api.OK)
		is(t, "acts", d.Acts()-acts, len(want)+1)
		d.Crash(0, 0)
		same(t, "what was taken away stays away", d.Dump(), left)
		acts = d.Acts()
		is(t, "Clean of what is clean", Clean(d), api.OK)
		is(t, "acts", d.Acts(), acts)
	}
}

func TestCleanRefuses(t *testing.T) {
	is(t, "no disk", Clean(nil), api.ErrNil)
	d := fresh(t, 10)
	is(t, "nothing", Clean(d), api.OK)
	is(t, "acts", d.Acts(), 0)
	done(t, d.Arm(0))
	is(t, "nothing, on a disk that would go down", Clean(d), api.OK)
	is(t, "down", Clean(down(t, d)), api.ErrDown)
}

// P8.12

func TestDrop(t *testing.T) {
	d := cluttered(t)
	builds(t, d, east(), easy(1), pairs("abc=chaff"))
	builds(t, d, east(), easy(3), numbered(9))
	others := slices.DeleteFunc(d.Dump(), func(x api.Stored) bool { return x.Path == "build-3" || strings.HasPrefix(x.Path, "build-3/") })
	put(t, d, "part-3/litter", "x")
	put(t, d, "part-8", "x")
	things := len(under(d, "build-3"))
	acts := d.Acts()
	is(t, "Drop", Drop(d, 3), api.OK)
	is(t, "acts", d.Acts()-acts, 4+1+1+1+things+1)
	kind, e := d.Kind("gone-3")
	is(t, "gone-3", kind, api.IsDir)
	is(t, "gone-3", e, api.OK)
	left := slices.DeleteFunc(d.Dump(), func(x api.Stored) bool { return x.Path == "gone-3" })
	same(t, "all else", left, others)
	d.Crash(0, 0)
	is(t, "gone-3 is safe", len(under(d, "gone-3")), 1)
	is(t, "and so is the rest", len(d.Dump()), len(others)+1)
	versionsAre(t, d, 1, 2)
	is(t, "again", Drop(d, 3), api.ErrUnbuilt)
}

func TestDropRefuses(t *testing.T) {
	d := looked(t)
	before, acts := d.Dump(), d.Acts()
	for version, want := range map[int]api.Errno{
		0: api.ErrVersion, -1: api.ErrVersion, 1000000: api.ErrVersion, mostInt: api.ErrVersion, leastInt: api.ErrVersion,
		2: api.ErrUnbuilt, 13: api.ErrUnbuilt, 14: api.ErrUnbuilt, 15: api.ErrUnbuilt, 999999: api.ErrUnbuilt,
	} {
		is(t, fmt.Sprint("Drop of ", version), Drop(d, version), want)
		is(t, fmt.Sprint("Drop of no disk, ", version), Drop(nil, version), api.ErrNil)
	}
	same(t, "the depot", d.Dump(), before)
	is(t, "acts", d.Acts(), acts)
	down(t, d)
	is(t, "down, no version", Drop(d, 0), api.ErrVersion)
	is(t, "down", Drop(d, 1), api.ErrDown)
	is(t, "down, not built", Drop(d, 2), api.ErrDown)
}

// TestDropWhereGoneIsThere: whatever has the name gone-V says it already.
func TestDropWhereGoneIsThere(t *testing.T) {
	for _, path := range []string{"gone-1/", "gone-1", "gone-1/x"} {
		d := fresh(t, 100000)
		builds(t, d, single(), easy(1), nil)
		put(t, d, path, "")
		before, acts := under(d, "gone-1"), d.Acts()
		is(t, path, Drop(d, 1), api.OK)
		is(t, path+": acts", d.Acts()-acts, 1+1+6+1)
		same(t, path, d.Dump(), before)
		refuses(t, path, d, single(), easy(1), nil, api.ErrBuilt)
	}
}

func TestDropOfAnything(t *testing.T) {
	d := fresh(t, 100)
	put(t, d, "build-7/whatever/x", "not what a build makes")
	put(t, d, "build-8/", "")
	is(t, "Drop", Drop(d, 7), api.OK)
	is(t, "Drop", Drop(d, 8), api.OK)
	is(t, "what is left", lies(d), "gone-7 gone-8")
}

// TestEachActOfDrop: as TestEachAct for Build.
func TestEachActOfDrop(t *testing.T) {
	for k := range 80 {
		leavesTheSame(t, fmt.Sprintf("down behind %d acts", k), func() *disk.Disk {
			d := fresh(t, 100000)
			builds(t, d, east(), easy(2), nil)
			put(t, d, "part-1/a", "x")
			done(t, d.Arm(k))
			return d
		}, func(calls depotCalls, d *disk.Disk) string { return fmt.Sprint(calls.drop(d, 2)) })
	}
}
