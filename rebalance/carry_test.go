package rebalance

import (
	"fmt"
	"strings"
	"testing"

	"granary/api"
	"granary/disk"
)

// P23.5

// TestWrittenByHand: E's pair abc "chaff" comes to F's nodes. A meta file has 99 bytes; a manifest of empty files 55 ahead of its nine rows, 539 in them and 37 behind.
func TestWrittenByHand(t *testing.T) {
	from := fleet(t, east(), 1, chaff(), home)
	index, record := "r\x00\x00\x00\x00", "\x00\x01\x00\x03\x00\x00\x00\x05abcchaff"
	for node, y := range []struct {
		slots []string
		at    string // where the pair lies
		want  api.Carried
	}{
		{[]string{"0_0", "3_1"}, "0_0_0", api.Carried{Slots: 2, Local: 2, Files: 10, Bytes: 753}},
		{[]string{"0_1", "1_0"}, "0_1_0", api.Carried{Slots: 2, Local: 2, Files: 10, Bytes: 753}},
		{[]string{"2_1", "3_0"}, "", api.Carried{Slots: 2, Local: 2, Files: 10, Bytes: 730}},
		{[]string{"1_1", "2_0"}, "", api.Carried{Slots: 2, Local: 0, Files: 10, Bytes: 730}},
	} {
		var files []api.Pair
		rows := 0
		for _, slot := range y.slots {
			for _, chunk := range []string{"_0", "_1"} {
				own := [2]string{}
				if slot+chunk == y.at {
					own, rows = [2]string{record, index}, 1
				}
				files = append(files, api.Pair{Key: slot + chunk + ".data", Value: own[0]}, api.Pair{Key: slot + chunk + ".index", Value: own[1]})
			}
		}
		what := fmt.Sprint("node ", node)
		x := trek(t, east(), west(), node, from)
		is(t, what, x.carries(t, what, withPapers(t, west(), 1, node, rows, files)), y.want)
		head := fmt.Sprintf("granary meta 1\nstore east\nversion 1\nnode %d\nparts 4\nreplicas 2\nwidth 1\nchunks 2\nrows %d\nsum ", node, rows)
		if text := bytesOf(t, x.to, goal+"/meta"); !strings.HasPrefix(text, head) || len(text) != 99 {
			t.Errorf("%s: the meta file is %q", what, text)
		}
		head = fmt.Sprintf("granary manifest 1\nstore east\nversion 1\nnode %d\nfiles 9\nfile %s_0.data ", node, y.slots[0])
		if text := bytesOf(t, x.to, goal+"/manifest"); !strings.HasPrefix(text, head) {
			t.Errorf("%s: the manifest is %q", what, text)
		}
	}
}

// Settings that place nothing otherwise change nothing but the meta file's, and that has none of them; what places things otherwise is all the same.
func TestOtherSettings(t *testing.T) {
	pairs := data(12, "")
	from := fleet(t, east(), 1, pairs, home)
	for i, c := range likes() {
		for node := range 3 {
			what := fmt.Sprintf("another setting, %d, node %d", i, node)
			want := filesOf(t, east(), node, 1, pairs)
			is(t, what, trek(t, east(), c, node, from).carries(t, what, want).Local, len(plainHolds(east(), node)))
			if len(c.Nodes) == 3 {
				trek(t, c, east(), node, from).carries(t, what, want)
			}
		}
	}
	for what, c := range fits() {
		for node := range c.Nodes {
			trek(t, east(), c, node, from).carries(t, what, filesOf(t, c, node, 1, pairs))
		}
		back := fleet(t, c, 1, pairs, home)
		for node := range 3 {
			trek(t, c, east(), node, back).carries(t, what+", back", filesOf(t, east(), node, 1, pairs))
		}
	}
}

// The replica's number in the names is that by next, the bytes are those under its number by was.
func TestRenamed(t *testing.T) {
	from := tagged(t, east())
	next := fits()["other places"] // of 0: 1, 0; of 1: 0, 1; of 2: 1, 2; of 3: 2, 1
	for _, y := range []struct {
		node       int
		name       string
		giver      int
		giversName string
	}{
		{0, "0_1_0", 0, "0_0_0"}, {0, "1_0_1", 0, "1_1_1"},
		{1, "0_0_1", 1, "0_1_1"}, {1, "1_1_0", 1, "1_0_0"}, {1, "2_0_1", 0, "2_0_1"}, {1, "3_1_0", 2, "3_0_0"},
		{2, "2_1_0", 2, "2_1_0"}, {2, "3_0_1", 2, "3_0_1"},
	} {
		x := trek(t, east(), next, y.node, from)
		_, e := x.carry(t, y.name)
		is(t, y.name, e, api.OK)
		for _, end := range []string{".index", ".data"} {
			want := bytesOf(t, from[y.giver], home+"/"+y.giversName+end)
			is(t, y.name+end, bytesOf(t, x.to, goal+"/"+y.name+end), want)
			is(t, y.name+end+" has bytes", want != "", true)
		}
	}
}

// Versions' numbers go into the papers, whatever the directories are called.
func TestVersions(t *testing.T) {
	for _, version := range []int{1, 2, 9, 10, 123456, last} {
		from := fleet(t, east(), version, chaff(), home)
		for node := range 4 {
			x := trek(t, east(), west(), node, from)
			x.version = version
			x.carries(t, fmt.Sprint("version ", version), filesOf(t, west(), node, version, chaff()))
			for _, other := range []int{version - 1, version + 1, 7} {
				x := trek(t, east(), west(), node, from)
				x.version = other
				want := api.ErrMissing
				if other < 1 || other > last {
					want = api.ErrVersion
				}
				x.refuses(t, fmt.Sprintf("version %d for %d", other, version), want)
			}
		}
	}
}

// Where the directories may lie: in the root, deep, the one within the other.
func TestPlaces(t *testing.T) {
	deep := "a/b/c/d/e/f/g" // seven names: the files have eight
	for _, dir := range []string{"", "v", home, deep} {
		from := fleet(t, east(), 1, data(12, ""), dir)
		for _, place := range []struct{ toDir, parent string }{{"x", ""}, {"fetch", ""}, {"y/x", "y"}, {"y/z/x", "y/z"}, {deep, "a/b/c/d/e/f"}} {
			for node := range 4 {
				x := trek(t, east(), west(), node, from)
				x.dir, x.toDir, x.to = dir, place.toDir, laid(t, place.parent+"/")
				if place.parent == "" {
					x.to = fresh(t)
				}
				x.carries(t, fmt.Sprintf("from %q to %q", dir, place.toDir), filesOf(t, west(), node, 1, data(12, "")))
			}
		}
	}
}

// The disk to may be one of those that give: another directory of it, one in the giver's own, one beside a giver's in the root.
func TestToAGiver(t *testing.T) {
	for _, place := range []struct{ dir, toDir string }{{home, goal}, {home, "x"}, {home, home + "/x"}, {"", "x"}, {"v", "x"}, {"v", "v/x"}} {
		for to := range 3 {
			for node := range 4 {
				all := fleet(t, east(), 1, data(12, ""), place.dir)
				x := trip{east(), west(), 1, node, all, place.dir, all[to], place.toDir}
				want := filesOf(t, west(), node, 1, data(12, ""))
				what := fmt.Sprintf("%q, to %q of disk %d", place.dir, place.toDir, to)
				told := x.carries(t, what, want)
				x.refuses(t, what+", again", api.ErrThere)
				if place.toDir == goal || place.toDir == "x" && place.dir != "" { // the giver is as whole as it was
					twin := x
					twin.to, twin.toDir = fresh(t), "x"
					is(t, what+", and to another", twin.carries(t, what, want), told)
				}
			}
		}
	}
	// One disk in all places, and to it.
	d := fresh(t)
	one := settings(1, 1, 2, many(4))
	lay(t, d, home, filesOf(t, one, 0, 1, data(12, "")))
	for node := range 4 {
		x := trip{one, west(), 1, node, []*disk.Disk{d}, home, d, fmt.Sprint("x", node)}
		x.carries(t, "all from one disk", filesOf(t, west(), node, 1, data(12, "")))
	}
}

// As many files as a node may have, as many partitions, nodes, chunks and replicas.
func TestGreatest(t *testing.T) {
	nodes := make([][]int, 16)
	for p := range 64 {
		nodes[p%16] = append(nodes[p%16], p)
	}
	pairs := data(512, "")
	for _, y := range []struct {
		was, next api.Cluster
		files     int // of node 0
	}{
		{settings(1, 16, 8, nodes...), settings(1, 16, 8, many(64)), 1026},
		{settings(1, 16, 8, many(64)), settings(1, 16, 8, nodes...), 66},
		{settings(2, 1, 16, []int{0}, []int{1}, []int{2, 3, 4, 5, 6, 7, 8, 9, 10, 11, 12, 13, 14, 15}), settings(1, 1, 16, nil, many(16)), 2},
	} {
		from := fleet(t, y.was, 1, pairs, home)
		for node := range min(3, len(y.next.Nodes)) {
			x := trek(t, y.was, y.next, node, from)
			told := x.carries(t, "great", filesOf(t, y.next, node, 1, pairs))
			if node == 0 {
				is(t, "files", told.Files, y.files)
			}
		}
	}
	all := make([][]int, 16)
	for p := range 16 {
		all[p] = []int{p}
	}
	was, next := settings(16, 3, 2, all...), settings(16, 3, 2, append(all[8:16:16], all[:8]...)...)
	from := fleet(t, was, 1, pairs[:40], home)
	for node := range 16 {
		x := trek(t, was, next, node, from)
		told := x.carries(t, "sixteen replicas", filesOf(t, next, node, 1, pairs[:40]))
		is(t, "sixteen replicas", told.Local, 16)
	}
}
