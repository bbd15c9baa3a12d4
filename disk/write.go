package disk

import (
	"maps"
	"slices"

	"granary/api"
)

// act is the last that a writing call asks, when nothing else refuses it: whether the disk still does it.
func (d *Disk) act() api.Errno {
	if d.armed && d.left == 0 {
		d.down = true
		return api.ErrDown
	}
	if d.armed {
		d.left--
	}
	d.acts++
	return api.OK
}

// change is an act that makes one change; grow is how many bytes more are seen behind it.
func (d *Disk) change(c change, grow int) api.Errno {
	if e := d.act(); e != api.OK {
		return e
	}
	d.changes++
	d.waiting++
	d.used += grow
	c.order = d.changes
	d.seen.do(c)
	d.pending[c.on] = append(d.pending[c.on], c)
	return api.OK
}

// Mkdir makes an empty directory.
func (d *Disk) Mkdir(path string) api.Errno {
	return d.enter(path, api.IsDir)
}

// Create makes an empty file.
func (d *Disk) Create(path string) api.Errno {
	return d.enter(path, api.IsFile)
}

func (d *Disk) enter(path string, kind int) api.Errno {
	there, at, e := d.look(path)
	if e != api.OK {
		return e
	}
	if there.kind != 0 {
		return api.ErrThere
	}
	made := thing{d.newest + 1, kind}
	e = d.change(change{on: at.dir, kind: changeNames, come: at.name, what: made}, 0)
	if e == api.OK {
		d.newest = made.number
	}
	return e
}

// Append puts bytes behind a file's end.
func (d *Disk) Append(path, data string) api.Errno {
	file, e := d.number(api.IsFile, path)
	if e != api.OK {
		return e
	}
	if d.used+len(data) > d.capacity {
		return api.ErrFull
	}
	return d.change(change{on: file, kind: changeAppend, data: data}, len(data))
}

// Truncate cuts a file to a size that is not above its own.
func (d *Disk) Truncate(path string, size int) api.Errno {
	file, e := d.number(api.IsFile, path, size)
	if e != api.OK {
		return e
	}
	old := len(d.seen.bytes[file])
	if size > old {
		return api.ErrEnd
	}
	return d.change(change{on: file, kind: changeCut, size: size}, size-old)
}

// Rename gives another name in the same directory.
func (d *Disk) Rename(from, to string) api.Errno {
	if e := d.ready(); e != api.OK {
		return e
	}
	old, oldOK := split(from)
	fresh, freshOK := split(to)
	if !oldOK || !freshOK || len(old) == 0 || len(fresh) == 0 {
		return api.ErrPath
	}
	last := len(old) - 1
	if len(fresh)-1 != last || !slices.Equal(old[:last], fresh[:last]) {
		return api.ErrCross
	}
	dir, e := d.seen.follow(old[:last])
	if e != api.OK {
		return e
	}
	return d.rename(dir, old[last], fresh[last])
}

func (d *Disk) rename(dir int, from, to string) api.Errno {
	what, there := d.seen.get(dir, from), d.seen.get(dir, to)
	if what.kind == 0 {
		return api.ErrNone
	}
	files := what.kind == api.IsFile && there.kind == api.IsFile
	if there.kind != 0 && (!files || from == to) {
		return api.ErrThere
	}
	c := change{on: dir, kind: changeNames, gone: from, come: to, what: what, lost: there}
	return d.change(c, -len(d.seen.bytes[there.number]))
}

// Remove takes away a file, or a directory that is empty.
func (d *Disk) Remove(path string) api.Errno {
	if e := d.ready(); e != api.OK {
		return e
	}
	if path == "" {
		return api.ErrPath
	}
	there, at, e := d.look(path)
	if e != api.OK {
		return e
	}
	if there.kind == 0 {
		return api.ErrNone
	}
	if there.kind == api.IsDir && d.seen.filled(there.number) {
		return api.ErrFilled
	}
	c := change{on: at.dir, kind: changeNames, gone: at.name, lost: there}
	return d.change(c, -len(d.seen.bytes[there.number]))
}

// Sync makes a file's bytes safe.
func (d *Disk) Sync(path string) api.Errno {
	return d.settle(path, api.IsFile)
}

// SyncDir makes a directory's entries safe.
func (d *Disk) SyncDir(path string) api.Errno {
	return d.settle(path, api.IsDir)
}

func (d *Disk) settle(path string, kind int) api.Errno {
	number, e := d.number(kind, path)
	if e != api.OK {
		return e
	}
	if e := d.act(); e != api.OK {
		return e
	}
	done := d.pending[number]
	delete(d.pending, number)
	d.waiting -= len(done)
	for _, c := range done {
		d.kept.do(c)
	}
	for _, c := range done {
		d.forget(c.lost)
	}
	return api.OK
}

// forget lets go of what a thing holds that no path will ever lead to again, be it seen or kept. Its pending changes stay, for a crash counts them, but they are bare.
func (d *Disk) forget(t thing) {
	if t.kind == 0 {
		return
	}
	delete(d.seen.bytes, t.number)
	delete(d.kept.bytes, t.number)
	list := d.pending[t.number]
	for i, c := range list {
		list[i] = change{order: c.order, on: c.on}
		d.forget(c.lost) // all that was in it: it was empty when it went
	}
	if t.kind == api.IsDir {
		maps.DeleteFunc(d.kept.entries, func(p place, _ thing) bool { return p.dir == t.number })
	}
}
