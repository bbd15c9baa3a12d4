package fetch

import (
	"granary/acts"
	"granary/api"
	"granary/disk"
	"granary/plain"
)

// Sweep takes a partial directory away.
func Sweep(d *disk.Disk, dir string) api.Errno {
	if d == nil {
		return api.ErrNil
	}
	if dir == "" {
		return api.ErrPath
	}
	_, e := d.Kind(dir)
	if e == api.ErrNone {
		return api.OK
	}
	if e != api.OK {
		return e
	}
	return acts.Run(sweeping(d, dir)...)
}

// sweeping are the acts by which what is at a path is taken away, safe from a crash.
func sweeping(d *disk.Disk, path string) []acts.Act {
	return append(acts.Removing(d, path), acts.On(plain.Parent(path), d.SyncDir))
}
