package builder

import (
	"fmt"
	"slices"
	"strings"
	"testing"

	"granary/api"
	"granary/disk"
	"granary/paper"
	"granary/ring"
)

// versionIs holds that a version is there as the plain reading makes it, and that nothing else lies in it.
func versionIs(t *testing.T, what string, d *disk.Disk, c api.Cluster, j api.Job, list []api.Pair) {
	t.Helper()
	want := []api.Stored{{Path: fmt.Sprint("build-", j.Version), Kind: api.IsDir}}
	chunks, papers := plainVersion(c, j, list)
	for node := range c.Nodes {
		want = append(want, api.Stored{Path: fmt.Sprintf("build-%d/node-%d", j.Version, node), Kind: api.IsDir})
	}
	for _, f := range append(chunks, papers...) {
		want = append(want, api.Stored{Path: fmt.Sprintf("build-%d/node-%d/%s", j.Version, f.node, f.name), Kind: api.IsFile, Data: f.data})
	}
	slices.SortFunc(want, func(a, b api.Stored) int { return strings.Compare(a.Path, b.Path) })
	if got := under(d, fmt.Sprint("build-", j.Version)); !slices.Equal(got, want) {
		t.Errorf("%s: the version is %+v, want %+v", what, got, want)
	}
}

// twins are two keys of one hash in one chunk, rising.
func twins(t *testing.T, c api.Cluster) (string, string) {
	t.Helper()
	seen := map[plainPlace]string{}
	for i := range 5000 {
		key := fmt.Sprint("t", 10000+i)
		at := plainLocate(c, key)
		if first, ok := seen[at]; ok {
			return first, key
		}
		seen[at] = key
	}
	t.Fatal("no two keys of one hash")
	return "", ""
}

// P8.4

func TestBuildRefusesInOrder(t *testing.T) {
	c, j, list := east(), easy(5), pairs("a=1")
	c.Width, j.Version = 17, 0
	refuses(t, "no disk", nil, c, j, list, api.ErrNil)
	d := fresh(t, 100)
	put(t, d, "part-9/a", "x")
	put(t, d, "build-5", "")
	down(t, d)
	refuses(t, "ring.Check", d, c, j, list, api.ErrSetting)
	c.Width = 1
	refuses(t, "Check", d, c, j, list, api.ErrVersion)
	j.Version = 5
	refuses(t, "List", d, c, j, list, api.ErrDown)
	d.Crash(99, 99)
	done(t, d.Arm(1))
	refuses(t, "build-5", d, c, j, list, api.ErrBuilt)
	is(t, "nothing was taken away", lies(d), "build-5:0 part-9 part-9/a:1")
	j.Version = 6
	refuses(t, "Clean", d, c, j, list, api.ErrDown)
	is(t, "Clean did one act", lies(d), "build-5:0 part-9")
	d.Crash(0, 0)
	is(t, "behind the crash", lies(d), "build-5:0 part-9 part-9/a:1")
	refuses(t, "no room", d, c, j, list, api.ErrRoom)
	is(t, "what Clean took away stays away", lies(d), "build-5:0")
	d.Crash(0, 0)
	is(t, "and that is safe", lies(d), "build-5:0")
}

func TestBuiltAlready(t *testing.T) {
	for _, path := range []string{"build-12/", "build-12", "gone-12/", "gone-12", "build-12/x", "gone-12/x"} {
		d := fresh(t, 100000)
		put(t, d, path, "")
		put(t, d, "part-3/a", "")
		acts := d.Acts()
		refuses(t, path, d, east(), easy(12), nil, api.ErrBuilt)
		is(t, path+": acts", d.Acts(), acts)
		builds(t, d, east(), easy(1), nil)
		builds(t, d, east(), easy(120), nil)
	}
	for _, path := range []string{"build-012/", "build-", "build-x", "xbuild-12/", "gone-12.", "gone12", "build-120/", "gone-1/", "node-12/"} {
		d := fresh(t, 100000)
		put(t, d, path, "")
		before := d.Dump()
		builds(t, d, east(), easy(12), nil)
		same(t, path, under(d, strings.TrimSuffix(path, "/")), before)
	}
}

func TestRoomToTheByte(t *testing.T) {
	for _, list := range [][]api.Pair{nil, pairs("a=1"), numbered(40)} {
		need, e := Need(east(), easy(1), list)
		done(t, e)
		d := fresh(t, need+30)
		put(t, d, "other", text(30))
		builds(t, d, east(), easy(1), list)
		d = fresh(t, need+30)
		put(t, d, "other", text(31))
		acts := d.Acts()
		refuses(t, "a byte too few", d, east(), easy(1), list, api.ErrRoom)
		is(t, "acts", d.Acts(), acts)
		d = fresh(t, need+30)
		put(t, d, "other", text(30))
		put(t, d, "part-7/a", text(need))
		builds(t, d, east(), easy(1), list)
	}
	refuses(t, "no room at all", fresh(t, 0), single(), easy(1), nil, api.ErrRoom)
}

// P8.5

// TestEachAct: a disk that goes down behind any number of acts is left as the plain list of acts leaves it, and so is what a crash makes of it.
func TestEachAct(t *testing.T) {
	a, b := twins(t, east())
	for _, x := range []struct {
		c    api.Cluster
		j    api.Job
		list []api.Pair
	}{
		{single(), easy(3), nil},
		{single(), easy(3), pairs("k=v", "l=", "k=w")},
		{east(), job(1, api.KeepLast, 60, 2), pairs("abc=grain", a+"=1", "abc=chaff", b+"=2", a+"=3", "oat=")},
		{east(), job(999999, api.KeepFirst, 200, 3), pairs(b+"=2", a+"=1", "abc=chaff", "abc=grain")},
	} {
		total := fresh(t, 1<<20)
		put(t, total, "part-2/a", "old")
		acts := total.Acts()
		builds(t, total, x.c, x.j, x.list)
		for k := range total.Acts() - acts + 1 {
			what := fmt.Sprintf("%+v, down behind %d acts", x.j, k)
			leavesTheSame(t, what, func() *disk.Disk {
				d := fresh(t, 1<<20)
				put(t, d, "part-2/a", "old")
				done(t, d.Arm(k))
				return d
			}, func(calls depotCalls, d *disk.Disk) string {
				built, e := calls.build(d, x.c, x.j, x.list)
				return fmt.Sprint(built, e)
			})
		}
	}
}

func TestHowManyActs(t *testing.T) {
	d := fresh(t, 100000)
	builds(t, d, east(), job(1, 0, 1000, 2), pairs("abc=grain", "abc=chaff"))
	files, papers := 32*2+4, 3*7 // four chunk files have bytes
	is(t, "acts", d.Acts(), 1+3+3+files+2+papers+3)
	is(t, "pending", d.Pending(), 3) // of the sorter's run, which has no name any more: that it came, its bytes, that it went
}

func TestTheFiles(t *testing.T) {
	a, b := twins(t, east())
	for policy, list := range [][]api.Pair{
		pairs("abc=grain", b+"=2", a+"=0", "oat=", "abc=chaff", a+"=1"),
		pairs("abc=chaff", b+"=2", a+"=1", "oat=", "abc=grain", a+"=0"),
		pairs("abc=chaff", b+"=2", a+"=1", "oat="),
	} {
		d := fresh(t, 100000)
		j := job(4, policy, 100, 2)
		built := builds(t, d, east(), j, list)
		versionIs(t, "the version", d, east(), j, list)
		versionIs(t, "as the kept pairs alone", d, east(), j, pairs("abc=chaff", a+"=1", b+"=2", "oat="))
		is(t, "Built", built, api.Built{Pairs: len(list), Kept: 4, Files: 38, Bytes: d.Used()})
	}
}

// TestTwins: two keys of one hash are one group, by rising keys, whatever came first.
func TestTwins(t *testing.T) {
	c := east()
	a, b := twins(t, c)
	at := plainLocate(c, a)
	for _, list := range [][]api.Pair{pairs(a+"=1", b+"=22"), pairs(b+"=22", a+"=1"), pairs(b+"=x", a+"=1", b+"=22")} {
		d := fresh(t, 100000)
		is(t, "Kept", builds(t, d, c, easy(1), list).Kept, 2)
		for replica, node := range plainOwners(c, at.part) {
			name := fmt.Sprintf("%d_%d_%d", at.part, replica, at.chunk)
			blockIs(t, d, 1, node, name+".index", at.hash+"\x00\x00\x00\x00")
			blockIs(t, d, 1, node, name+".data", "\x00\x02\x00\x06\x00\x00\x00\x01"+a+"1\x00\x06\x00\x00\x00\x02"+b+"22")
		}
	}
}

// TestNoPairs: each chunk is two empty files, and a node without partitions has its papers alone.
func TestNoPairs(t *testing.T) {
	c := settings("s", 2, 3, 2, holding(0), holding(), holding(1))
	d := fresh(t, 100000)
	is(t, "Built", builds(t, d, c, easy(1), nil), api.Built{Files: 16 + 6, Bytes: d.Used()})
	blockIs(t, d, 1, 0, "1_1_1.index", "")
	blockIs(t, d, 1, 2, "0_1_0.data", "")
	versionIs(t, "no pairs", d, c, easy(1), nil)
	var names []string
	for _, x := range under(d, "build-1/node-1") {
		names = append(names, x.Path)
	}
	is(t, "the node without partitions", strings.Join(names, " "), "build-1/node-1 build-1/node-1/manifest build-1/node-1/meta")
	text, e := Manifest(d, 1, 1)
	done(t, e)
	m, e := paper.ParseManifest(text)
	is(t, "its manifest", e, api.OK)
	is(t, "its manifest's files", len(m.Files), 1)
}

// TestOwnersTurned: partitions 0 and 1 of E lie with nodes 0 and 1, once in this order and once in the other.
func TestOwnersTurned(t *testing.T) {
	c := east()
	var list []api.Pair
	for i := 0; len(list) < 2; i++ {
		key := fmt.Sprint("o", i)
		if at := plainLocate(c, key); at.part == len(list) {
			list = append(list, api.Pair{Key: key, Value: "v"})
		}
	}
	d := fresh(t, 100000)
	builds(t, d, c, easy(1), list)
	for part, key := range []string{list[0].Key, list[1].Key} {
		at := plainLocate(c, key)
		want := "\x00\x01\x00" + string(rune(len(key))) + "\x00\x00\x00\x01" + key + "v"
		blockIs(t, d, 1, part, fmt.Sprintf("%d_0_%d.data", part, at.chunk), want)
		blockIs(t, d, 1, 1-part, fmt.Sprintf("%d_1_%d.data", part, at.chunk), want)
	}
	for node, rows := range []int{2, 2, 0} {
		meta, _ := Block(d, 1, node, "meta", 0, 999)
		m, e := paper.ParseMeta(meta)
		done(t, e)
		is(t, "Rows", m, api.Meta{Store: "east", Version: 1, Node: node, Parts: 4, Replicas: 2, Width: 1, Chunks: 2, Rows: rows})
	}
}

// TestGreat: the most files, nodes, partitions, pairs and bytes that there may be.
func TestGreat(t *testing.T) {
	for _, c := range []api.Cluster{
		round(1, 64, 1, 16, 8),
		round(16, 64, 8, 16, 1),
		round(16, 16, 16, 1, 2),
		round(3, 32, 1, 4, 16),
	} {
		is(t, "the cluster", ring.Check(c), api.OK)
		for _, list := range [][]api.Pair{numbered(512), filled(32768), slices.Repeat(numbered(64), 8)} {
			d := fresh(t, 1<<22)
			j := job(999999, api.KeepLast, 16*4096+1000, 16)
			built := builds(t, d, c, j, list)
			versionIs(t, "a great one", d, c, j, list)
			is(t, "Bytes", built.Bytes, d.Used())
			is(t, "Pairs", built.Pairs, len(list))
			is(t, "Kept", built.Kept, len(plainKept(j, list)))
		}
	}
}

// TestRowTooHeavy: the first row that the sorter refuses ends the build, and all that was made is taken away.
func TestRowTooHeavy(t *testing.T) {
	for _, c := range []struct {
		what   string
		memory int
		list   []api.Pair
		acts   int
	}{
		{"the first", 2*22 - 1, pairs("ab=c"), 2 + 2 + 1},                                     // 16 + 3 + 3
		{"the second", 2 * 22, pairs("ab=c", "ab=cd"), 2 + 2 + 1},                             // nothing was flushed yet
		{"behind a run", 2 * 22, pairs("ab=c", "ab=c", "ab=c", "ab=cd"), 2 + 2 + 3 + 1},       // run-1, of two rows
		{"behind a row that weighs as much as may be", 2 * 22, pairs("a=cd", "a=cde"), 2 + 3}, //
	} {
		d := fresh(t, 100000)
		builds(t, d, east(), easy(9), nil)
		before, acts := d.Dump(), d.Acts()
		refuses(t, c.what, d, east(), job(1, 0, c.memory, 2), c.list, api.ErrRow)
		same(t, c.what+": the depot", d.Dump(), before)
		is(t, c.what+": acts", d.Acts()-acts, c.acts)
		builds(t, d, east(), job(1, 0, c.memory+100, 2), c.list)
	}
	d := fresh(t, 100000)
	builds(t, d, east(), job(1, 0, 2*22, 2), pairs("ab=c"))
}

// TestFirstErrorIsTold: the disk goes down in the Clean behind an error: that error is answered all the same.
func TestFirstErrorIsTold(t *testing.T) {
	for k := 2; k < 5; k++ {
		d := fresh(t, 100000)
		done(t, d.Arm(k))
		refuses(t, "a heavy row", d, east(), job(1, 0, 30, 2), pairs("abc=grain"), api.ErrRow)
		is(t, "down", d.Down(), true)
		is(t, "acts", d.Acts(), k)
	}
}

// P8.14

func TestMemoryDoesNotMatter(t *testing.T) {
	lot := dice(14)
	c := round(3, 5, 2, 1, 2)
	for range 20 {
		list := drawPairs(&lot)
		kept := plainKept(easy(1), list)
		first := fresh(t, 100000)
		builds(t, first, c, easy(7), kept)
		for range 4 {
			d := fresh(t, 200000)
			for v := range lot.roll(3) {
				builds(t, d, east(), easy(v+1), drawPairs(&lot))
			}
			mixed, policy, fan := slices.Clone(kept), lot.roll(3), 2+lot.roll(15)
			for i := range mixed {
				k := lot.roll(i + 1)
				mixed[i], mixed[k] = mixed[k], mixed[i]
			}
			builds(t, d, c, job(7, policy, fan*(45+lot.roll(100)), fan), mixed)
			same(t, "the version", under(d, "build-7"), under(first, "build-7"))
		}
		d := fresh(t, 100000)
		builds(t, d, c, job(7, api.KeepLast, 200, 2), list)
		same(t, "with what is not kept", under(d, "build-7"), under(first, "build-7"))
		slices.Reverse(list)
		d = fresh(t, 100000)
		builds(t, d, c, job(7, api.KeepFirst, 200, 2), list)
		same(t, "turned round", under(d, "build-7"), under(first, "build-7"))
	}
}
