package shelf

import (
	"fmt"
	"reflect"
	"slices"
	"strings"
	"testing"

	"granary/api"
	"granary/disk"
)

const (
	mostInt  = int(^uint(0) >> 1)
	leastInt = -mostInt - 1
)

func is[T comparable](t *testing.T, what string, got, want T) {
	t.Helper()
	if got != want {
		t.Errorf("%s: %v, want %v", what, got, want)
	}
}

func same(t *testing.T, what string, got, want any) {
	t.Helper()
	if !reflect.DeepEqual(got, want) {
		t.Errorf("%s: %+v, want %+v", what, got, want)
	}
}

func done(t *testing.T, all ...api.Errno) {
	t.Helper()
	for i, e := range all {
		if e != api.OK {
			t.Fatalf("call %d: %d", i, e)
		}
	}
}

func fresh(t *testing.T, capacity int) *disk.Disk {
	t.Helper()
	d, e := disk.New(capacity)
	done(t, e)
	return d
}

// settings are those of the cluster E but for the ones that a shelf goes by.
func settings(store string, replicas, width, chunks int, nodes ...api.NodeDef) api.Cluster {
	return api.Cluster{
		Store: store, Replicas: replicas, Width: width, Chunks: chunks, Retain: 2,
		Block: 64, Rate: 64, Per: 1, Burst: 64, Tries: 3, Base: 1, Most: 8, Quota: 100000,
		Room: 100000, Depot: 100000, Resend: 2, Limit: 3, Patience: 50, GetWait: 2, Strikes: 2, Ban: 10, Home: 0,
		Nodes: nodes,
	}
}

func holding(parts ...int) api.NodeDef { return api.NodeDef{Parts: parts} }

// east is the cluster E of chapter 6.
func east() api.Cluster { return settings("east", 2, 1, 2, holding(0, 2), holding(1), holding(3)) }

// single is one node with one partition and one chunk.
func single(width int) api.Cluster { return settings("s", 1, width, 1, holding(0)) }

// round is a cluster whose partitions lie with the nodes in turn.
func round(nodes, parts, replicas, width, chunks int) api.Cluster {
	c := settings("round", replicas, width, chunks, make([]api.NodeDef, nodes)...)
	for p := range parts {
		c.Nodes[p%nodes].Parts = append(c.Nodes[p%nodes].Parts, p)
	}
	return c
}

// pairs are told as key=value.
func pairs(all ...string) []api.Pair {
	var list []api.Pair
	for _, s := range all {
		key, value, _ := strings.Cut(s, "=")
		list = append(list, api.Pair{Key: key, Value: value})
	}
	return list
}

// numbered are so many pairs of different keys.
func numbered(n int) []api.Pair {
	var list []api.Pair
	for i := range n {
		list = append(list, api.Pair{Key: fmt.Sprintf("k%d", i), Value: strings.Repeat("v", i%7) + fmt.Sprint(i)})
	}
	return list
}

func text(n int) string { return strings.Repeat("v", n) }

// down takes a disk down.
func down(t *testing.T, d *disk.Disk) {
	t.Helper()
	done(t, d.Arm(0))
	is(t, "the last act", d.SyncDir(""), api.ErrDown)
}

// up brings a disk up again, with all that it had.
func up(d *disk.Disk) { d.Crash(mostInt, 0) }

// put makes a file, with all directories on its way, or a directory if its path ends with '/'.
func put(t *testing.T, d *disk.Disk, path, data string) {
	t.Helper()
	names := strings.Split(path, "/")
	for i := 1; i < len(names); i++ {
		if dir := disk.Path(names[:i]...); !has(d, dir) {
			done(t, d.Mkdir(dir))
		}
	}
	if names[len(names)-1] != "" {
		done(t, d.Create(path), d.Append(path, data))
	}
}

func has(d *disk.Disk, path string) bool {
	_, e := d.Kind(path)
	return e == api.OK
}

// rewrite gives a file other bytes.
func rewrite(t *testing.T, d *disk.Disk, path, data string) {
	t.Helper()
	done(t, d.Truncate(path, 0), d.Append(path, data))
}

// calm holds that what is done leaves a disk as it was.
func calm(t *testing.T, what string, d *disk.Disk, do func()) {
	t.Helper()
	acts, pending, dump, isDown := d.Acts(), d.Pending(), d.Dump(), d.Down()
	do()
	if d.Acts() != acts || d.Pending() != pending || d.Down() != isDown || !slices.Equal(d.Dump(), dump) {
		t.Errorf("%s: the disk was changed", what)
	}
}

// opens opens, and it must be done.
func opens(t *testing.T, d *disk.Disk, dir string, c api.Cluster, node, version int) *Shelf {
	t.Helper()
	var s *Shelf
	calm(t, "Open", d, func() {
		var e api.Errno
		s, e = Open(d, dir, c, node, version)
		if s == nil || e != api.OK {
			t.Fatalf("Open(%q, %s, %d, %d): %d", dir, c.Store, node, version, e)
		}
	})
	return s
}

// refuses holds that a directory is refused with that error, and that there is no shelf.
func refuses(t *testing.T, what string, d *disk.Disk, dir string, c api.Cluster, node, version int, want api.Errno) {
	t.Helper()
	calm(t, what, d, func() {
		if s, e := Open(d, dir, c, node, version); s != nil || e != want {
			t.Errorf("%s: Open = %v, %d, want %d", what, s != nil, e, want)
		}
	})
}

func getIs(t *testing.T, s *Shelf, key, want string, found bool, errno api.Errno) {
	t.Helper()
	if value, ok, e := s.Get(key); value != want || ok != found || e != errno {
		t.Errorf("Get(%.20q) = %.20q, %v, %d, want %.20q, %v, %d", key, value, ok, e, want, found, errno)
	}
}

func scanIs(t *testing.T, s *Shelf, part int, want []api.Pair, errno api.Errno) {
	t.Helper()
	if list, e := s.Scan(part); !slices.Equal(list, want) || e != errno || errno != api.OK && list != nil {
		t.Errorf("Scan(%d) = %.200q, %d, want %.200q, %d", part, list, e, want, errno)
	}
}

func allIs(t *testing.T, s *Shelf, want []api.Pair) {
	t.Helper()
	if list := slices.Collect(s.All()); !slices.Equal(list, want) {
		t.Errorf("All gives %.200q, want %.200q", list, want)
	}
}

// drain goes through all pairs of a shelf.
func drain(s *Shelf) {
	for range s.All() {
	}
}

// reads is how many Reads something makes.
func reads(d *disk.Disk, do func()) int {
	before := d.Reads()
	do()
	return d.Reads() - before
}

// dice are numbers that are the same in every run.
type dice uint64

func (d *dice) roll(n int) int {
	*d = *d*6364136223846793005 + 1442695040888963407
	return int(uint64(*d)>>33) % n
}
