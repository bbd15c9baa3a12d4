package disk

import (
	"fmt"
	"reflect"
	"strings"
	"testing"

	"granary/api"
)

const greatest = int(^uint(0) >> 1)

func fresh(t *testing.T, capacity int) *Disk {
	t.Helper()
	d, e := New(capacity)
	if d == nil || e != api.OK {
		t.Fatalf("New(%d) = %v, %d", capacity, d, e)
	}
	return d
}

func is[T comparable](t *testing.T, what string, got, want T) {
	t.Helper()
	if got != want {
		t.Errorf("%s: %v, want %v", what, got, want)
	}
}

// done runs calls that must all answer OK.
func done(t *testing.T, answers ...api.Errno) {
	t.Helper()
	for i, e := range answers {
		if e != api.OK {
			t.Errorf("call %d: %d, want OK", i, e)
		}
	}
}

func holds(t *testing.T, d *Disk, path, data string) {
	t.Helper()
	got, e := d.Read(path, 0, greatest)
	if got != data || e != api.OK {
		t.Errorf("Read(%q) = %q, %d, want %q", path, got, e, data)
	}
}

func kindIs(t *testing.T, d *Disk, path string, kind int, want api.Errno) {
	t.Helper()
	got, e := d.Kind(path)
	if got != kind || e != want {
		t.Errorf("Kind(%q) = %d, %d, want %d, %d", path, got, e, kind, want)
	}
}

func lacks(t *testing.T, d *Disk, path string) {
	t.Helper()
	kindIs(t, d, path, 0, api.ErrNone)
}

func text(n int) string { return strings.Repeat("x", n) }

// call is a call of the disk that answers an Errno, and whether its other results are zero.
type call struct {
	name   string
	writes bool
	run    func(d *Disk, path string) (api.Errno, bool)
}

func simple(f func(d *Disk, path string) api.Errno) func(*Disk, string) (api.Errno, bool) {
	return func(d *Disk, path string) (api.Errno, bool) { return f(d, path), true }
}

// calls are all calls with a path.
func calls() []call {
	return []call{
		{"Mkdir", true, simple((*Disk).Mkdir)},
		{"Create", true, simple((*Disk).Create)},
		{"Append", true, simple(func(d *Disk, p string) api.Errno { return d.Append(p, "x") })},
		{"Truncate", true, simple(func(d *Disk, p string) api.Errno { return d.Truncate(p, 0) })},
		{"Rename from", true, simple(func(d *Disk, p string) api.Errno { return d.Rename(p, sibling(p)) })},
		{"Rename to", true, simple(func(d *Disk, p string) api.Errno { return d.Rename(sibling(p), p) })},
		{"Remove", true, simple((*Disk).Remove)},
		{"Sync", true, simple((*Disk).Sync)},
		{"SyncDir", true, simple((*Disk).SyncDir)},
		{"Read", false, func(d *Disk, p string) (api.Errno, bool) { s, e := d.Read(p, 0, 1); return e, s == "" }},
		{"Size", false, func(d *Disk, p string) (api.Errno, bool) { n, e := d.Size(p); return e, n == 0 }},
		{"Kind", false, func(d *Disk, p string) (api.Errno, bool) { n, e := d.Kind(p); return e, n == 0 }},
		{"List", false, func(d *Disk, p string) (api.Errno, bool) { l, e := d.List(p); return e, len(l) == 0 }},
	}
}

// sibling is another path with the same parent.
func sibling(path string) string {
	return path[:strings.LastIndex(path, "/")+1] + "sibling"
}

// shape is all that can be asked of a disk without a change of it.
type shape struct {
	Stored                               []api.Stored
	Used, Capacity, Acts, Reads, Pending int
	Down                                 bool
}

func shapeOf(d *Disk) shape {
	return shape{d.Dump(), d.Used(), d.Capacity(), d.Acts(), d.Reads(), d.Pending(), d.Down()}
}

func sameShape(t *testing.T, what string, got, want shape) {
	t.Helper()
	if !reflect.DeepEqual(got, want) {
		t.Errorf("%s: %+v, want %+v", what, got, want)
	}
}

func kindName(kind int) string {
	return map[int]string{api.IsDir: "dir", api.IsFile: "file"}[kind]
}

func listed(list []api.Entry) string {
	var out []string
	for _, x := range list {
		out = append(out, fmt.Sprintf("%s %s %d", x.Name, kindName(x.Kind), x.Size))
	}
	return strings.Join(out, ", ")
}

func dumped(d *Disk) string {
	var out []string
	for _, x := range d.Dump() {
		out = append(out, fmt.Sprintf("%s %s %q", x.Path, kindName(x.Kind), x.Data))
	}
	return strings.Join(out, ", ")
}
