package builder

import (
	"granary/api"
	"granary/disk"
	"granary/plain"
)

// Clean takes away what builds that did not end have left.
func Clean(d *disk.Disk) (e api.Errno) {
	defer func() { e = caught(recover()) }()
	clean(d)
	return api.OK
}

func clean(d *disk.Disk) {
	list, e := d.List("")
	must(e)
	taken := 0
	for _, entry := range list {
		if _, ok := plain.VersionOf(plain.PartBegin, entry.Name); ok {
			takeAway(d, entry.Name, entry.Kind)
			taken++
		}
	}
	if taken > 0 {
		must(d.SyncDir(""))
	}
}

// takeAway removes a file, or a directory with all that is in it.
func takeAway(d *disk.Disk, path string, kind int) {
	if kind == api.IsDir {
		list, e := d.List(path)
		must(e)
		for _, entry := range list {
			takeAway(d, disk.Path(path, entry.Name), entry.Kind)
		}
	}
	must(d.Remove(path))
}

// Drop takes a version away. Its number is written down as used up ahead of that: it never means another dataset.
func Drop(d *disk.Disk, version int) (e api.Errno) {
	if e := mayBe(d, version); e != api.OK {
		return e
	}
	if e := stands(d, version); e != api.OK {
		return e
	}
	defer func() { e = caught(recover()) }()
	clean(d)
	gone := plain.NameOf(plain.GoneBegin, version)
	if _, e := d.Kind(gone); e != api.OK {
		must(d.Mkdir(gone))
	}
	must(d.Rename(plain.NameOf(plain.BuildBegin, version), plain.NameOf(plain.PartBegin, version)))
	must(d.SyncDir(""))
	clean(d)
	return api.OK
}
