// Package disk: a file system in plain data that can lose its power at any act: see DOC.md, layer 1.
package disk

import "granary/api"

// Disk is a file system. Its fields are the program's own business.
type Disk struct {
	capacity, used, acts, reads int

	armed, down bool
	left        int // while armed: the acts that are still done

	newest  int // the number of the thing that was made last
	changes int // how many there have been
	waiting int // how many are pending

	seen, kept state
	pending    map[int][]change // by the thing's number, in their order
}

// New is an empty disk of so many bytes.
func New(capacity int) (*Disk, api.Errno) {
	if capacity < 0 || capacity > api.MaxDisk {
		return nil, api.ErrArg
	}
	return &Disk{capacity: capacity, seen: newState(), kept: newState(), pending: map[int][]change{}}, api.OK
}

// none tells that there is no disk here. A Disk that New did not make is none: it has no root.
func (d *Disk) none() bool {
	return d == nil || d.pending == nil
}

// ready is what every call that answers an Errno asks first.
func (d *Disk) ready() api.Errno {
	if d.none() {
		return api.ErrNil
	}
	if d.down {
		return api.ErrDown
	}
	return api.OK
}

// look finds what a path leads to, and the place of its entry (the root has none). The numbers are those that may not be below 0. It asks for all that comes ahead of what a call itself asks for.
func (d *Disk) look(path string, numbers ...int) (thing, place, api.Errno) {
	if e := d.ready(); e != api.OK {
		return thing{}, place{}, e
	}
	names, ok := split(path)
	if !ok {
		return thing{}, place{}, api.ErrPath
	}
	for _, n := range numbers {
		if n < 0 {
			return thing{}, place{}, api.ErrArg
		}
	}
	if len(names) == 0 {
		return thing{root, api.IsDir}, place{}, api.OK
	}
	last := len(names) - 1
	dir, e := d.seen.follow(names[:last])
	if e != api.OK {
		return thing{}, place{}, e
	}
	return d.seen.get(dir, names[last]), place{dir, names[last]}, api.OK
}

// number is the number of the thing at a path, which must be of that kind.
func (d *Disk) number(kind int, path string, numbers ...int) (int, api.Errno) {
	t, _, e := d.look(path, numbers...)
	if e != api.OK {
		return 0, e
	}
	if t.kind == 0 {
		return 0, api.ErrNone
	}
	if t.kind != kind {
		return 0, api.ErrKind
	}
	return t.number, api.OK
}

// Used is the bytes of all files.
func (d *Disk) Used() int {
	if d.none() {
		return 0
	}
	return d.used
}

// Capacity is the bytes that there is room for.
func (d *Disk) Capacity() int {
	if d.none() {
		return 0
	}
	return d.capacity
}

// Acts is how many acts there have been.
func (d *Disk) Acts() int {
	if d.none() {
		return 0
	}
	return d.acts
}

// Reads is how many calls of Read have answered OK.
func (d *Disk) Reads() int {
	if d.none() {
		return 0
	}
	return d.reads
}

// Pending is how many changes are not safe yet.
func (d *Disk) Pending() int {
	if d.none() {
		return 0
	}
	return d.waiting
}
