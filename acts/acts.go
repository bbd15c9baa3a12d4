// Package acts has the acts on a disk as values: what a layer is to do stands in a list, and is done one after the other.
package acts

import (
	"granary/api"
	"granary/disk"
)

// Act is a call that changes a disk, and the path with which it is called.
type Act struct {
	path string
	do   func(path string) api.Errno
}

// On is the act that calls a disk with a path.
func On(path string, do func(path string) api.Errno) Act { return Act{path, do} }

// With makes of a call for a path and something else one for a path alone.
func With[T any](do func(string, T) api.Errno, what T) func(string) api.Errno {
	return func(path string) api.Errno { return do(path, what) }
}

// Run does them one after the other, till one is refused.
func Run(list ...Act) api.Errno {
	for _, a := range list {
		if e := a.do(a.path); e != api.OK {
			return e
		}
	}
	return api.OK
}

// Removing are the acts by which what is at a path goes, with all that is in it.
func Removing(d *disk.Disk, path string) []Act {
	var list []Act
	inside, _ := d.List(path) // of a file: nothing
	for _, entry := range inside {
		list = append(list, Removing(d, disk.Path(path, entry.Name))...)
	}
	return append(list, On(path, d.Remove))
}
