package rebalance

import (
	"crypto/md5"
	"fmt"
	"hash/crc32"
	"slices"
	"strings"
	"testing"

	"granary/api"
	"granary/digest"
	"granary/disk"
	"granary/paper"
	"granary/record"
	"granary/ring"
	"granary/shelf"
)

// The chapter, read word by word. Who owns what is told by chapter 6's own words, not by layer 6.

// homesOf is the node to which each partition belongs.
func homesOf(c api.Cluster) []int {
	homes := map[int]int{}
	for n, node := range c.Nodes {
		for _, p := range node.Parts {
			homes[p] = n
		}
	}
	var list []int
	for p := range len(homes) {
		list = append(list, homes[p])
	}
	return list
}

// plainOwners are the owners of a partition.
func plainOwners(c api.Cluster, part int) []int {
	homes := homesOf(c)
	var owners []int
	for p := part; len(owners) < c.Replicas; p = (p + 1) % len(homes) {
		if !slices.Contains(owners, homes[p]) {
			owners = append(owners, homes[p])
		}
	}
	return owners
}

// plainHolds are the slots that a node holds.
func plainHolds(c api.Cluster, node int) []api.Slot {
	var slots []api.Slot
	for p := range homesOf(c) {
		if r := slices.Index(plainOwners(c, p), node); r >= 0 {
			slots = append(slots, api.Slot{Part: p, Replica: r})
		}
	}
	return slots
}

// plainFit is the error that the two definitions have.
func plainFit(was, next api.Cluster) api.Errno {
	if e := ring.Check(was); e != api.OK {
		return e
	}
	if e := ring.Check(next); e != api.OK {
		return e
	}
	if was.Store == next.Store && len(homesOf(was)) == len(homesOf(next)) && was.Width == next.Width && was.Chunks == next.Chunks {
		return api.OK
	}
	return api.ErrOther
}

func plainPlan(was, next api.Cluster) ([]api.Move, api.Errno) {
	if e := plainFit(was, next); e != api.OK {
		return nil, e
	}
	var moves []api.Move
	for node := range next.Nodes {
		for _, slot := range plainHolds(next, node) {
			owners := plainOwners(was, slot.Part)
			m := api.Move{Part: slot.Part, From: owners[0], FromReplica: 0, To: node, Replica: slot.Replica}
			for place, owner := range owners {
				if owner == node {
					m.From, m.FromReplica = owner, place
				}
			}
			moves = append(moves, m)
		}
	}
	return moves, api.OK
}

func plainLeaves(was, next api.Cluster, node int) ([]api.Slot, api.Errno) {
	if e := plainFit(was, next); e != api.OK {
		return nil, e
	}
	ofWas, ofNext := 0 <= node && node < len(was.Nodes), 0 <= node && node < len(next.Nodes)
	if !ofWas && !ofNext {
		return nil, api.ErrNode
	}
	var left []api.Slot
	for _, slot := range plainHolds(was, node) {
		if !slices.Contains(plainOwners(next, slot.Part), node) {
			left = append(left, slot)
		}
	}
	return left, api.OK
}

// isWhole tells whether a node of was is.
func (x trip) isWhole(node int) bool {
	if x.from[node] == nil {
		return false
	}
	_, e := shelf.Open(x.from[node], x.dir, x.was, node, x.version)
	return e == api.OK
}

// source is where the node gets a partition from, and as which replica; -1: there is none.
func (x trip) source(part int) (node, replica int) {
	owners := plainOwners(x.was, part)
	if r := slices.Index(owners, x.node); r >= 0 && x.isWhole(x.node) {
		return x.node, r
	}
	for r, owner := range owners {
		if x.isWhole(owner) {
			return owner, r
		}
	}
	return -1, 0
}

// plain is what the chapter says of a call that is not refused ahead of its acts: the answer, the files by rising names; or the error by which it is.
func (x trip) plain(t *testing.T) (api.Carried, []api.Pair, api.Errno) {
	t.Helper()
	none := api.Carried{}
	if x.to == nil {
		return none, nil, api.ErrNil
	}
	if _, e := plainPlan(x.was, x.next); e != api.OK {
		return none, nil, e
	}
	if x.version < 1 || x.version > 999999 {
		return none, nil, api.ErrVersion
	}
	if x.node < 0 || x.node >= len(x.next.Nodes) {
		return none, nil, api.ErrNode
	}
	if len(x.from) != len(x.was.Nodes) {
		return none, nil, api.ErrArg
	}
	told, files, ok := x.plainFiles(t)
	if !ok {
		return none, nil, api.ErrMissing
	}
	if _, e := x.to.Kind(x.toDir); e == api.OK {
		return none, nil, api.ErrThere
	} else if e != api.ErrNone {
		return none, nil, e
	}
	if x.to.Capacity()-x.to.Used() < told.Bytes {
		return none, nil, api.ErrRoom
	}
	return told, files, api.OK
}

// plainFiles are the files that are to be written, if each partition has a source.
func (x trip) plainFiles(t *testing.T) (api.Carried, []api.Pair, bool) {
	t.Helper()
	var told api.Carried
	var files []api.Pair
	rows := 0
	for _, slot := range plainHolds(x.next, x.node) {
		node, replica := x.source(slot.Part)
		if node < 0 {
			return told, nil, false
		}
		told.Slots++
		if node == x.node {
			told.Local++
		}
		for chunk := range x.next.Chunks {
			var texts [2]string
			for i, end := range []string{"index", "data"} {
				texts[i] = bytesOf(t, x.from[node], strings.TrimPrefix(fmt.Sprintf("%s/%d_%d_%d.%s", x.dir, slot.Part, replica, chunk, end), "/"))
				files = append(files, api.Pair{Key: fmt.Sprintf("%d_%d_%d.%s", slot.Part, slot.Replica, chunk, end), Value: texts[i]})
			}
			groups, e := record.Decode(x.was.Width, api.Chunk{Index: texts[0], Data: texts[1]})
			done(t, e)
			for _, g := range groups {
				rows += len(g.Pairs)
			}
		}
	}
	files = withPapers(t, x.next, x.version, x.node, rows, files)
	told.Files, told.Bytes = len(files), sizeOf(files)
	return told, files, true
}

// withPapers are files with the meta file and the manifest that belong to them, by rising names.
func withPapers(t *testing.T, c api.Cluster, version, node, rows int, files []api.Pair) []api.Pair {
	t.Helper()
	text, e := paper.PrintMeta(api.Meta{Store: c.Store, Version: version, Node: node, Parts: len(homesOf(c)), Replicas: c.Replicas, Width: c.Width, Chunks: c.Chunks, Rows: rows})
	done(t, e)
	files = append(files, api.Pair{Key: "meta", Value: text})
	slices.SortFunc(files, func(a, b api.Pair) int { return strings.Compare(a.Key, b.Key) })
	m := api.Manifest{Store: c.Store, Version: version, Node: node}
	all := ""
	for _, f := range files {
		sum := md5.Sum([]byte(f.Value))
		m.Files = append(m.Files, api.FileRow{Name: f.Key, Size: len(f.Value), Crc: int(crc32.ChecksumIEEE([]byte(f.Value))), Md5: string(sum[:])})
		all += f.Value
	}
	m.Total, m.Whole = len(all), digest.CRC(all)
	text, e = paper.PrintManifest(m)
	done(t, e)
	files = append(files, api.Pair{Key: "manifest", Value: text})
	slices.SortFunc(files, func(a, b api.Pair) int { return strings.Compare(a.Key, b.Key) })
	return files
}

// deed is an act, for telling which are done: its word, its path, and bytes.
type deed struct{ do, path, more string }

func (s deed) on(d *disk.Disk) api.Errno {
	switch s.do {
	case "mkdir":
		return d.Mkdir(s.path)
	case "create":
		return d.Create(s.path)
	case "append":
		return d.Append(s.path, s.more)
	case "remove":
		return d.Remove(s.path)
	case "sync":
		return d.Sync(s.path)
	case "syncdir":
		return d.SyncDir(s.path)
	}
	return api.ErrArg
}

// deedsOf are the acts by which files are written to a directory whose parent is this.
func deedsOf(dir, parent string, files []api.Pair) []deed {
	all := []deed{{"mkdir", dir, ""}}
	last := []deed{}
	for _, f := range files {
		path := dir + "/" + f.Key
		own := []deed{{"create", path, ""}, {"append", path, f.Value}, {"sync", path, ""}}
		if f.Value == "" {
			own = []deed{own[0], own[2]}
		}
		if f.Key == "manifest" {
			last = own
		} else {
			all = append(all, own...)
		}
	}
	return append(append(all, last...), deed{"syncdir", dir, ""}, deed{"syncdir", parent, ""})
}
