package builder

import (
	"fmt"
	"reflect"
	"slices"
	"strings"
	"testing"

	"granary/api"
	"granary/disk"
)

const (
	mostInt  = int(^uint(0) >> 1)
	leastInt = -mostInt - 1
)

func is[T comparable](t *testing.T, what string, got, want T) {
	t.Helper()
	if got != want {
		t.Errorf("%s: %v, want %v", what, got, want)
	}
}

func done(t *testing.T, all ...api.Errno) {
	t.Helper()
	for i, e := range all {
		if e != api.OK {
			t.Fatalf("call %d: %d", i, e)
		}
	}
}

func fresh(t *testing.T, capacity int) *disk.Disk {
	t.Helper()
	d, e := disk.New(capacity)
	done(t, e)
	return d
}

// settings are those of the cluster E but for the ones that a build goes by.
func settings(store string, replicas, width, chunks int, nodes ...api.NodeDef) api.Cluster {
	return api.Cluster{
		Store: store, Replicas: replicas, Width: width, Chunks: chunks, Retain: 2,
		Block: 64, Rate: 64, Per: 1, Burst: 64, Tries: 3, Base: 1, Most: 8, Quota: 100000,
		Room: 100000, Depot: 100000, Resend: 2, Limit: 3, Patience: 50, GetWait: 2, Strikes: 2, Ban: 10, Home: 0,
		Nodes: nodes,
	}
}

func holding(parts ...int) api.NodeDef { return api.NodeDef{Parts: parts} }

// east is the cluster E of chapter 6.
func east() api.Cluster { return settings("east", 2, 1, 2, holding(0, 2), holding(1), holding(3)) }

// single is one node with one partition and one chunk.
func single() api.Cluster { return settings("s", 1, 1, 1, holding(0)) }

// round is a cluster whose partitions lie with the nodes in turn.
func round(nodes, parts, replicas, width, chunks int) api.Cluster {
	c := settings("round", replicas, width, chunks, make([]api.NodeDef, nodes)...)
	for p := range parts {
		c.Nodes[p%nodes].Parts = append(c.Nodes[p%nodes].Parts, p)
	}
	return c
}

func job(version, policy, memory, fan int) api.Job {
	return api.Job{Version: version, Policy: policy, Memory: memory, FanIn: fan}
}

// easy is a job that keeps the last of a key's pairs, with memory enough.
func easy(version int) api.Job { return job(version, api.KeepLast, api.MaxDisk, 2) }

// pairs are told as key=value.
func pairs(all ...string) []api.Pair {
	var list []api.Pair
	for _, s := range all {
		key, value, _ := strings.Cut(s, "=")
		list = append(list, api.Pair{Key: key, Value: value})
	}
	return list
}

// numbered are so many pairs of different keys.
func numbered(n int) []api.Pair {
	var list []api.Pair
	for i := range n {
		list = append(list, api.Pair{Key: fmt.Sprintf("k%d", i), Value: strings.Repeat("v", i%7)})
	}
	return list
}

func text(n int) string { return strings.Repeat("v", n) }

// builds builds, and it must be done.
func builds(t *testing.T, d *disk.Disk, c api.Cluster, j api.Job, list []api.Pair) api.Built {
	t.Helper()
	b, e := Build(d, c, j, list)
	if e != api.OK {
		t.Fatalf("Build(%+v, %d pairs): %d", j, len(list), e)
	}
	return b
}

// refuses holds that a build is refused, with that error and no Built.
func refuses(t *testing.T, what string, d *disk.Disk, c api.Cluster, j api.Job, list []api.Pair, want api.Errno) {
	t.Helper()
	if b, e := Build(d, c, j, list); b != (api.Built{}) || e != want {
		t.Errorf("%s: Build = %+v, %d, want %d", what, b, e, want)
	}
}

// lies is all that a disk has: names, and sizes of files.
func lies(d *disk.Disk) string {
	var out []string
	for _, x := range d.Dump() {
		if x.Kind == api.IsFile {
			x.Path += fmt.Sprintf(":%d", len(x.Data))
		}
		out = append(out, x.Path)
	}
	return strings.Join(out, " ")
}

// root is the names in the root.
func root(d *disk.Disk) string {
	var out []string
	for _, x := range d.Dump() {
		if !strings.Contains(x.Path, "/") {
			out = append(out, x.Path)
		}
	}
	return strings.Join(out, " ")
}

// under is what lies below a path, with its bytes.
func under(d *disk.Disk, path string) []api.Stored {
	var out []api.Stored
	for _, x := range d.Dump() {
		if x.Path == path || strings.HasPrefix(x.Path, path+"/") {
			out = append(out, x)
		}
	}
	return out
}

func same(t *testing.T, what string, got, want any) {
	t.Helper()
	if !reflect.DeepEqual(got, want) {
		t.Errorf("%s: %+v, want %+v", what, got, want)
	}
}

func versionsAre(t *testing.T, d *disk.Disk, want ...int) {
	t.Helper()
	if got, e := Versions(d); e != api.OK || !slices.Equal(got, want) {
		t.Errorf("Versions = %v, %d, want %v", got, e, want)
	}
}

// blockIs asks for all bytes of a file.
func blockIs(t *testing.T, d *disk.Disk, version, node int, file, want string) {
	t.Helper()
	got, e := Block(d, version, node, file, 0, mostInt)
	if got != want || e != api.OK {
		t.Errorf("Block(%d, %d, %q) = %q, %d, want %q", version, node, file, got, e, want)
	}
}

// put makes a file, with all directories on its way, or a directory if its path ends with '/'. All of it is safe.
func put(t *testing.T, d *disk.Disk, path, data string) {
	t.Helper()
	names := strings.Split(path, "/")
	for i := 1; i < len(names); i++ {
		dir := disk.Path(names[:i]...)
		if _, e := d.Kind(dir); e != api.OK {
			done(t, d.Mkdir(dir), d.SyncDir(disk.Path(names[:i-1]...)))
		}
	}
	if names[len(names)-1] != "" {
		done(t, d.Create(path), d.Append(path, data), d.Sync(path), d.SyncDir(disk.Path(names[:len(names)-1]...)))
	}
}

// down takes a disk down.
func down(t *testing.T, d *disk.Disk) *disk.Disk {
	t.Helper()
	done(t, d.Arm(0))
	is(t, "the last act", d.SyncDir(""), api.ErrDown)
	return d
}

// dice are numbers that are the same in every run.
type dice uint64

func (d *dice) roll(n int) int {
	*d = *d*6364136223846793005 + 1442695040888963407
	return int(uint64(*d)>>33) % n
}
