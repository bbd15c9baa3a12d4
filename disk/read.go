package disk

import (
	"cmp"
	"slices"

	"granary/api"
)

// Read gives up to n bytes from at on.
func (d *Disk) Read(path string, at, n int) (string, api.Errno) {
	file, e := d.number(api.IsFile, path, at, n)
	if e != api.OK {
		return "", e
	}
	data := d.seen.bytes[file]
	if at > len(data) {
		return "", api.ErrEnd
	}
	d.reads++
	return string(data[at:][:min(n, len(data)-at)]), api.OK
}

// Size is a file's bytes.
func (d *Disk) Size(path string) (int, api.Errno) {
	file, e := d.number(api.IsFile, path)
	if e != api.OK {
		return 0, e
	}
	return len(d.seen.bytes[file]), api.OK
}

// Kind is api.IsDir or api.IsFile.
func (d *Disk) Kind(path string) (int, api.Errno) {
	there, _, e := d.look(path)
	if e != api.OK {
		return 0, e
	}
	if there.kind == 0 {
		return 0, api.ErrNone
	}
	return there.kind, api.OK
}

// List is what a directory holds, by rising names.
func (d *Disk) List(path string) ([]api.Entry, api.Errno) {
	dir, e := d.number(api.IsDir, path)
	if e != api.OK {
		return nil, e
	}
	var list []api.Entry
	for p, t := range d.seen.entries {
		if p.dir == dir {
			list = append(list, api.Entry{Name: p.name, Kind: t.kind, Size: len(d.seen.bytes[t.number])})
		}
	}
	slices.SortFunc(list, func(a, b api.Entry) int { return cmp.Compare(a.Name, b.Name) })
	return list, api.OK
}

// Dump is all that the disk holds, by rising paths (the root is left out).
func (d *Disk) Dump() []api.Stored {
	if d.none() {
		return nil
	}
	var list []api.Stored
	for _, f := range d.seen.walk()[1:] {
		list = append(list, api.Stored{Path: f.path, Kind: f.what.kind, Data: string(d.seen.bytes[f.what.number])})
	}
	slices.SortFunc(list, func(a, b api.Stored) int { return cmp.Compare(a.Path, b.Path) })
	return list
}
