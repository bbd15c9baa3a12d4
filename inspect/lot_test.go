package inspect

import (
	"fmt"
	"strconv"
	"strings"
	"testing"

	"granary/api"
	"granary/disk"
	"granary/fetch"
)

// Disks drawn by lot, hurt by lot: what is found is held against the plain reading of the chapter, and against what comes of it.

var versions = []int{1, 2, 3, 7, 10, last}

// tell counts what was found.
type tally map[string]int

func (n tally) count(list []api.Finding) {
	for _, x := range list {
		n[fmt.Sprint(x.Kind, " ", x.Code)]++
		if x.Kind == isPartial && x.Code == api.OK && x.Count > 0 {
			n["safe"]++
		}
	}
}

// drawnFiles are a node's files of a version of E, mostly those that belong in its directory.
func drawnFiles(t *testing.T, lot *dice, node, version int) []api.Pair {
	t.Helper()
	of := version
	if lot.roll(12) == 0 {
		of = oneOf(lot, versions...)
	}
	if lot.roll(12) == 0 {
		node = lot.roll(3)
	}
	return filesOf(t, east(), node, of, data(lot.roll(2)))
}

// drawnFetch lays a partial directory.
func drawnFetch(t *testing.T, lot *dice, d *disk.Disk, version int) {
	t.Helper()
	dir, files := "store/fetch-"+strconv.Itoa(version), drawnFiles(t, lot, 1, version)
	switch lot.roll(6) {
	case 0:
		lay(t, d, dir, files)
	case 1:
		p := begun()
		for _, kind := range faults() {
			if lot.roll(6) == 0 {
				p = p.with(oneOf(lot, kind...).do)
			}
		}
		p.version = oneOf(lot, p.version, version)
		other := p.lay(t)
		put(t, d, dir+"/", "")
		for _, x := range other.Dump() {
			name, ok := strings.CutPrefix(x.Path, "store/fetch-7/")
			switch {
			case !ok:
			case x.Kind == api.IsDir:
				put(t, d, dir+"/"+name+"/", "")
			default:
				put(t, d, dir+"/"+name, x.Data)
			}
		}
	case 2:
		three(t, d, lot.roll(3), dir)
	default:
		block := oneOf(lot, 16, 64, 1000, 4096)
		j, e := fetch.Begin(d, dir, manifestIn(files), limitsOf(east(), block))
		done(t, e, feeds(t, j, files, lot.roll(1+totalOf(t, manifestIn(files))/block+6)))
	}
}

// drawnNode is a node's disk.
func drawnNode(t *testing.T, lot *dice) *disk.Disk {
	t.Helper()
	d := fresh(t)
	if lot.roll(20) == 0 {
		three(t, d, lot.roll(2), "store")
		return d
	}
	put(t, d, "store/", "")
	for _, version := range versions {
		name := strconv.Itoa(version)
		if lot.roll(3) == 0 {
			lay(t, d, "store/version-"+name, drawnFiles(t, lot, 1, version))
		}
		if lot.roll(3) == 0 {
			drawnFetch(t, lot, d, version)
		}
		if lot.roll(9) == 0 {
			three(t, d, lot.roll(3), "store/trash-"+name)
		}
	}
	if lot.roll(3) > 0 {
		put(t, d, "store/latest", pointer(t, oneOf(lot, append(versions, 0, 0, 0)...), 0, lot.roll(3), lot.roll(3)))
	}
	if lot.roll(4) == 0 {
		three(t, d, lot.roll(3), "store/latest.new")
	}
	return d
}

func drawnDepot(t *testing.T, lot *dice) *disk.Disk {
	t.Helper()
	d, c := fresh(t), east()
	for _, version := range versions {
		name := strconv.Itoa(version)
		switch lot.roll(5) {
		case 0:
			pairs := data(lot.roll(2))[:lot.roll(21)]
			for node := range c.Nodes {
				lay(t, d, "build-"+name+"/node-"+strconv.Itoa(node), filesOf(t, c, node, version, pairs))
			}
		case 1:
			for node := range c.Nodes {
				lay(t, d, "build-"+name+"/node-"+strconv.Itoa(node), drawnFiles(t, lot, node, version))
			}
		case 2:
			three(t, d, lot.roll(3), oneOf(lot, "build-", "part-", "gone-")+name)
		}
		if lot.roll(6) == 0 {
			if name := oneOf(lot, "part-", "gone-") + name; !has(d, name) {
				three(t, d, lot.roll(3), name)
			}
		}
	}
	return d
}

func drawnDesk(t *testing.T, lot *dice) *disk.Disk {
	t.Helper()
	d := fresh(t)
	text := logText(lot.roll(6), lot.roll(4), oneOf(lot, 0, 1, 7, last, last+1), lot.roll(5))
	if lot.roll(2) == 0 {
		text = logText(1+lot.roll(9), 1+lot.roll(2), 1+lot.roll(9), lot.roll(4))
	}
	switch lot.roll(6) {
	case 0:
		three(t, d, lot.roll(3), "job")
	case 1:
	default:
		put(t, d, "job", text)
	}
	if lot.roll(3) == 0 {
		three(t, d, lot.roll(3), "job.new")
	}
	return d
}

// hurt does something to a thing on a disk.
func hurt(t *testing.T, lot *dice, d *disk.Disk) {
	t.Helper()
	all := d.Dump()
	if len(all) == 0 {
		return
	}
	x := all[lot.roll(len(all))]
	dir := x.Path[:max(0, strings.LastIndex(x.Path, "/"))]
	beside := func(name string) string { return strings.TrimPrefix(dir+"/"+name, "/") }
	name := oneOf(lot, "x", "store", "latest", "latest.new", "job", "job.new", "journal", "manifest", "meta", "node-0", "node-3", "version-2", "version-02", "fetch-3", "trash-7", "build-1", "part-10", "gone-2", "gone-1000000", "0_1_0.data")
	switch lot.roll(8) {
	case 0:
		away(t, d, x.Path)
	case 1:
		d.Rename(x.Path, beside(name)) // what may be in the way stays
	case 2:
		d.Mkdir(beside(name))
	case 3:
		d.Create(beside(name))
	case 4:
		done(t, d.Create(beside("y")), d.Append(beside("y"), "y"), d.Remove(beside("y")))
	default:
		if x.Kind == api.IsDir {
			return
		}
		switch n := len(x.Data); {
		case lot.roll(4) == 0:
			done(t, d.Append(x.Path, oneOf(lot, "x", "\n", x.Data)))
		case n > 0 && lot.roll(2) == 0:
			done(t, d.Truncate(x.Path, lot.roll(n)))
		case n > 0:
			turn(t, d, x.Path, lot.roll(n))
		}
	}
}

func TestStoresByLot(t *testing.T) {
	lot, n := dice(22), tally{}
	for range 1500 {
		d := drawnNode(t, &lot)
		for range lot.roll(5) {
			hurt(t, &lot, d)
		}
		want := plainStore(d, east(), 1)
		n.count(want)
		eastIs(t, "by lot", d, want...)
		if t.Failed() {
			return
		}
	}
	for _, what := range []string{"1 0", "2 0", "2 40", "2 41", "2 42", "2 43", "2 87", "2 90", "2 91", "2 92", "2 93", "2 112", "2 114", "3 0", "5 0", "6 14", "6 40", "6 90", "6 91", "6 92", "6 93", "6 120", "6 121", "safe"} {
		if n[what] < 5 {
			t.Errorf("%s: found %d times", what, n[what])
		}
	}
}

func TestDepotsByLot(t *testing.T) {
	lot, n := dice(2201), tally{}
	for range 500 {
		d := drawnDepot(t, &lot)
		for range lot.roll(4) {
			hurt(t, &lot, d)
		}
		want := plainDepot(d, east())
		n.count(want)
		depotIs(t, "by lot", d, east(), want...)
		if t.Failed() {
			return
		}
	}
	for _, what := range []string{"1 0", "3 0", "4 0", "5 0", "6 12", "6 14", "6 40", "6 90", "6 91", "6 92", "6 93", "6 94"} {
		if n[what] < 5 {
			t.Errorf("%s: found %d times", what, n[what])
		}
	}
}

func TestDesksByLot(t *testing.T) {
	lot, n := dice(2202), tally{}
	for range 4000 {
		d := drawnDesk(t, &lot)
		for range lot.roll(3) {
			hurt(t, &lot, d)
		}
		want := plainDesk(d)
		n.count(want)
		deskIs(t, "by lot", d, want...)
		if t.Failed() {
			return
		}
	}
	for _, what := range []string{"1 0", "2 0", "3 0", "5 0", "6 14", "6 17", "6 40", "6 41", "6 42"} {
		if n[what] < 5 {
			t.Errorf("%s: found %d times", what, n[what])
		}
	}
}
