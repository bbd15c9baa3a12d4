package fetch

import (
	"strings"

	"granary/api"
	"granary/disk"
)

// act is a call that changes a disk, and the path with which it is called.
type act struct {
	path string
	do   func(path string) api.Errno
}

// with makes of a call for a path and something else one for a path alone.
func with[T any](do func(string, T) api.Errno, what T) func(string) api.Errno {
	return func(path string) api.Errno { return do(path, what) }
}

// run calls them one after the other, till one is refused.
func run(acts []act) api.Errno {
	for _, a := range acts {
		if e := a.do(a.path); e != api.OK {
			return e
		}
	}
	return api.OK
}

// parent is the path of the directory that a path's last name stands in.
func parent(path string) string {
	return path[:max(strings.LastIndexByte(path, '/'), 0)]
}

// Sweep takes a partial directory away.
func Sweep(d *disk.Disk, dir string) api.Errno {
	if d == nil {
		return api.ErrNil
	}
	if dir == "" {
		return api.ErrPath
	}
	kind, e := d.Kind(dir)
	if e == api.ErrNone {
		return api.OK
	}
	if e != api.OK {
		return e
	}
	return run(sweeping(d, dir, kind))
}

// sweeping are the acts by which what is at a path is taken away, safe from a crash.
func sweeping(d *disk.Disk, path string, kind int) []act {
	return append(removing(d, path, kind), act{parent(path), d.SyncDir})
}

func removing(d *disk.Disk, path string, kind int) []act {
	var acts []act
	if kind == api.IsDir {
		list, _ := d.List(path)
		for _, entry := range list {
			acts = append(acts, removing(d, disk.Path(path, entry.Name), entry.Kind)...)
		}
	}
	return append(acts, act{path, d.Remove})
}
