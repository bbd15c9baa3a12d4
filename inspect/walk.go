package inspect

import (
	"cmp"
	"iter"
	"slices"
	"strings"

	"granary/api"
	"granary/disk"
	"granary/plain"
)

// entry is what lies in a directory.
type entry struct {
	name, path string
	isDir      bool
}

// meaning is what is found where an entry's name begins so. A beginning that ends with a dash has a version's number behind it; any other is the whole name.
type meaning struct {
	begin string
	kind  int
	look  func(api.Finding, entry) []api.Finding // looks closer at what the name alone says; nil: there is nothing to look at
}

// through is what is found in a disk's root, by what the names mean there.
func through(d *disk.Disk, names []meaning) ([]api.Finding, api.Errno) {
	if _, e := d.Kind(rootName); e != api.OK {
		return nil, e
	}
	found := find(d, rootName, names)
	slices.SortFunc(found, func(a, b api.Finding) int { return cmp.Compare(a.Path, b.Path) })
	return found, api.OK
}

// find is what is found in a directory, by what the names mean there.
func find(d *disk.Disk, path string, names []meaning) []api.Finding {
	var found []api.Finding
	for e := range entries(d, path) {
		found = append(found, e.find(names)...)
	}
	return found
}

// entries goes through what lies in a directory.
func entries(d *disk.Disk, path string) iter.Seq[entry] {
	return func(yield func(entry) bool) {
		list, _ := d.List(path) // of what is no directory: nothing
		for _, x := range list {
			if !yield(entry{x.Name, plain.Under(path, x.Name), x.Kind == api.IsDir}) {
				return
			}
		}
	}
}

func (e entry) find(names []meaning) []api.Finding {
	for _, m := range names {
		version, ok := m.read(e.name)
		if !ok {
			continue
		}
		f := api.Finding{Path: e.path, Kind: m.kind, Version: version}
		if m.look == nil {
			return only(f)
		}
		return m.look(f, e)
	}
	return only(foreign(e))
}

// read tells whether a name is one of these, and reads the version's number in it.
func (m meaning) read(name string) (int, bool) {
	if strings.HasSuffix(m.begin, "-") {
		return plain.VersionOf(m.begin, name)
	}
	return 0, name == m.begin
}

// only is what a closer look tells where there is nothing more to find.
func only(f api.Finding) []api.Finding { return []api.Finding{f} }

func foreign(e entry) api.Finding { return api.Finding{Path: e.path, Kind: api.FindForeign} }

func broken(f api.Finding, why api.Errno) api.Finding {
	f.Kind, f.Code = api.FindBroken, why
	return f
}
