package acts

import (
	"slices"
	"testing"

	"granary/api"
	"granary/disk"
)

func fresh(t *testing.T) *disk.Disk {
	t.Helper()
	d, e := disk.New(100)
	if e != api.OK {
		t.Fatal(e)
	}
	return d
}

func TestRun(t *testing.T) {
	d := fresh(t)
	if e := Run(); e != api.OK {
		t.Errorf("no acts: %d", e)
	}
	e := Run(On("a", d.Create), On("a", With(d.Append, "hello")), On("a", With(d.Truncate, 4)), On("a", With(d.Rename, "b")), On("b", d.Sync))
	want := []api.Stored{{Path: "b", Kind: api.IsFile, Data: "hell"}}
	if e != api.OK || d.Acts() != 5 || !slices.Equal(d.Dump(), want) {
		t.Errorf("%d, %d acts, %v", e, d.Acts(), d.Dump())
	}
	if e := Run(On("c", d.Mkdir), On("c", d.Sync), On("d", d.Mkdir)); e != api.ErrKind || d.Acts() != 6 {
		t.Errorf("the second one is refused: %d, %d acts", e, d.Acts())
	}
}

func TestRemoving(t *testing.T) {
	d := fresh(t)
	Run(On("a", d.Mkdir), On("a/m", d.Mkdir), On("a/m/y", d.Create), On("a/m/x", d.Create), On("a/z", d.Mkdir), On("a/b", d.Create), On("b", d.Create))
	var paths []string
	for _, a := range Removing(d, "a") {
		paths = append(paths, a.path)
	}
	if want := []string{"a/b", "a/m/x", "a/m/y", "a/m", "a/z", "a"}; !slices.Equal(paths, want) {
		t.Errorf("%v, want %v", paths, want)
	}
	if e := Run(slices.Concat(Removing(d, "a"), Removing(d, "b"))...); e != api.OK || len(d.Dump()) != 0 {
		t.Errorf("%d, %v", e, d.Dump())
	}
}
