package engine

import (
	"regexp"
	"slices"
	"strconv"

	"granary/api"
	"granary/disk"
	"granary/paper"
	"granary/ring"
	"granary/shelf"
)

// The plain reading of the chapter: it works on a disk of its own, and looks at the disk for everything but whether it is stuck.

type reading struct {
	d     *disk.Disk
	c     api.Cluster
	node  int
	stuck bool

	err api.Errno // of the first act that was refused
}

// act does nothing any more, once one was refused.
func (r *reading) act(do func() api.Errno) {
	if r.err == api.OK {
		r.err = do()
	}
}

func (r *reading) create(path string)  { r.act(func() api.Errno { return r.d.Create(path) }) }
func (r *reading) mkdir(path string)   { r.act(func() api.Errno { return r.d.Mkdir(path) }) }
func (r *reading) sync(path string)    { r.act(func() api.Errno { return r.d.Sync(path) }) }
func (r *reading) syncDir(path string) { r.act(func() api.Errno { return r.d.SyncDir(path) }) }
func (r *reading) remove(path string)  { r.act(func() api.Errno { return r.d.Remove(path) }) }
func (r *reading) append(path, s string) {
	r.act(func() api.Errno { return r.d.Append(path, s) })
}
func (r *reading) rename(from, to string) {
	r.act(func() api.Errno { return r.d.Rename(from, to) })
}

// ended tells what came of the acts.
func (r *reading) ended() api.Errno {
	r.stuck = r.err != api.OK
	return r.err
}

var versioned = regexp.MustCompile(`^(version|fetch|trash)-([1-9][0-9]{0,5})$`)

// entries is the store's entries of a kind of name, as they are listed.
func (r *reading) entries(word string) (names []string, versions []int) {
	list, _ := r.d.List("store")
	for _, x := range list {
		if m := versioned.FindStringSubmatch(x.Name); m != nil && m[1] == word {
			n, _ := strconv.Atoi(m[2])
			names, versions = append(names, x.Name), append(versions, n)
		}
	}
	return names, versions
}

func (r *reading) whole(v int) bool {
	kind, _ := r.d.Kind("store/version-" + strconv.Itoa(v))
	_, e := shelf.Open(r.d, "store/version-"+strconv.Itoa(v), r.c, r.node, v)
	return kind == api.IsDir && e == api.OK
}

func (r *reading) clear(path string) {
	if list, e := r.d.List(path); e == api.OK {
		for _, x := range list {
			r.clear(path + "/" + x.Name)
		}
	}
	r.remove(path)
}

func (r *reading) discard(v int) {
	digits := strconv.Itoa(v)
	r.rename("store/version-"+digits, "store/trash-"+digits)
	r.syncDir("store")
	r.clear("store/trash-" + digits)
	r.syncDir("store")
}

// readOpen is Open, read plainly.
func readOpen(d *disk.Disk, c api.Cluster, node int) (*reading, api.Errno) {
	r := &reading{d: d, c: c, node: node}
	if d == nil {
		return nil, api.ErrNil
	}
	if _, e := ring.Holds(c, node); e != api.OK {
		return nil, e
	}
	kind, e := d.Kind("store")
	if e == api.ErrNone {
		r.mkdir("store")
		r.syncDir("")
		if r.err != api.OK {
			return nil, r.err
		}
	} else if e != api.OK {
		return nil, e
	} else if kind == api.IsFile {
		return nil, api.ErrKind
	}
	p, good := r.pointer()
	if !good {
		return nil, api.ErrPointer
	}
	if p.Cur != 0 && !r.whole(p.Cur) {
		return nil, api.ErrCurrent
	}
	r.recover()
	if r.err != api.OK {
		return nil, r.err
	}
	return r, api.OK
}

func (r *reading) recover() {
	litter, _ := r.entries("trash")
	if _, e := r.d.Kind("store/latest.new"); e == api.OK {
		litter = append([]string{"latest.new"}, litter...)
	}
	for _, name := range litter {
		r.clear("store/" + name)
	}
	if len(litter) > 0 {
		r.syncDir("store")
	}
	_, versions := r.entries("version")
	for _, v := range versions {
		if !r.whole(v) {
			r.discard(v)
		}
	}
}

// pointer is what latest says.
func (r *reading) pointer() (api.Pointer, bool) {
	if _, e := r.d.Kind("store/latest"); e == api.ErrNone {
		return api.Pointer{}, true
	}
	text, e := r.d.Read("store/latest", 0, mostInt)
	p, f := paper.ParsePointer(text)
	return p, e == api.OK && f == api.OK
}

func (r *reading) have() []int {
	_, versions := r.entries("version")
	slices.Sort(versions)
	return versions
}

func (r *reading) has(v int) bool { return slices.Contains(r.have(), v) }

func (r *reading) state() api.State {
	if r.stuck {
		return api.State{}
	}
	p, _ := r.pointer()
	return api.State{Cur: p.Cur, Prev: p.Prev, Epoch: p.Epoch, Seq: p.Seq, Have: r.have()}
}

func (r *reading) partial() []int {
	if r.stuck {
		return nil
	}
	names, versions := r.entries("fetch")
	var list []int
	for i, name := range names {
		if kind, _ := r.d.Kind("store/" + name); kind == api.IsDir {
			list = append(list, versions[i])
		}
	}
	slices.Sort(list)
	return list
}

func (r *reading) write(p api.Pointer) api.Errno {
	text, _ := paper.PrintPointer(p)
	r.create("store/latest.new")
	r.append("store/latest.new", text)
	if r.err == api.ErrFull {
		r.err = api.OK
		r.remove("store/latest.new")
		if e := r.ended(); e != api.OK {
			return e
		}
		return api.ErrFull
	}
	r.sync("store/latest.new")
	r.rename("store/latest.new", "store/latest")
	r.syncDir("store")
	return r.ended()
}

func inside(n, low, high int) bool { return n >= low && n <= high }

func (r *reading) swap(version, epoch, seq int) api.Errno {
	if r.stuck {
		return api.ErrStuck
	}
	if !inside(epoch, 0, most) || !inside(seq, 0, most) {
		return api.ErrArg
	}
	if !inside(version, 1, 999999) {
		return api.ErrVersion
	}
	p, _ := r.pointer()
	if epoch < p.Epoch || epoch == p.Epoch && seq < p.Seq {
		return api.ErrStale
	}
	if epoch == p.Epoch && seq == p.Seq {
		if version == p.Cur {
			return api.OK
		}
		return api.ErrStale
	}
	if !r.has(version) {
		return api.ErrAbsent
	}
	return r.write(api.Pointer{Cur: version, Prev: p.Cur, Epoch: epoch, Seq: seq})
}

func (r *reading) rollback(epoch, seq int) api.Errno {
	if r.stuck {
		return api.ErrStuck
	}
	if !inside(epoch, 0, most) || !inside(seq, 0, most) {
		return api.ErrArg
	}
	p, _ := r.pointer()
	if epoch < p.Epoch || epoch == p.Epoch && seq < p.Seq {
		return api.ErrStale
	}
	if epoch == p.Epoch && seq == p.Seq {
		return api.OK
	}
	if epoch != p.Epoch {
		return r.write(api.Pointer{Cur: p.Cur, Prev: p.Cur, Epoch: epoch, Seq: seq})
	}
	if p.Prev != 0 && !r.has(p.Prev) {
		return api.ErrAbsent
	}
	return r.write(api.Pointer{Cur: p.Prev, Prev: p.Prev, Epoch: epoch, Seq: seq})
}

func (r *reading) admit(version int) api.Errno {
	if r.stuck {
		return api.ErrStuck
	}
	if !inside(version, 1, 999999) {
		return api.ErrVersion
	}
	if r.has(version) {
		return api.OK
	}
	digits := strconv.Itoa(version)
	dir := "store/fetch-" + digits
	if kind, _ := r.d.Kind(dir); kind != api.IsDir {
		return api.ErrPartial
	}
	if _, e := shelf.Open(r.d, dir, r.c, r.node, version); e != api.OK {
		return e
	}
	list, _ := r.d.List(dir)
	for _, x := range list {
		r.sync(dir + "/" + x.Name)
	}
	r.syncDir(dir)
	r.rename(dir, "store/version-"+digits)
	r.syncDir("store")
	return r.ended()
}

func (r *reading) prune() ([]int, api.Errno) {
	if r.stuck {
		return nil, api.ErrStuck
	}
	p, _ := r.pointer()
	have := r.have()
	var gone []int
	for i, v := range have {
		if v != p.Cur && v != p.Prev && len(have)-i > r.c.Retain {
			gone = append(gone, v)
		}
	}
	for _, v := range gone {
		r.discard(v)
	}
	if e := r.ended(); e != api.OK {
		return nil, e
	}
	return gone, api.OK
}

func (r *reading) get(key string) (api.Answer, api.Errno) {
	if r.stuck {
		return api.Answer{}, api.ErrStuck
	}
	p, _ := r.pointer()
	if p.Cur == 0 {
		return api.Answer{}, api.ErrEmpty
	}
	s, _ := shelf.Open(r.d, "store/version-"+strconv.Itoa(p.Cur), r.c, r.node, p.Cur)
	value, found, e := s.Get(key)
	if e != api.OK {
		return api.Answer{}, e
	}
	return api.Answer{Version: p.Cur, Found: found, Value: value}, api.OK
}

func (r *reading) scan(version, part int) ([]api.Pair, api.Errno) {
	if r.stuck {
		return nil, api.ErrStuck
	}
	if !r.has(version) {
		return nil, api.ErrAbsent
	}
	s, _ := shelf.Open(r.d, "store/version-"+strconv.Itoa(version), r.c, r.node, version)
	return s.Scan(part)
}

func (r *reading) sum(version, part int) (string, int, api.Errno) {
	pairs, e := r.scan(version, part)
	if e != api.OK {
		return "", 0, e
	}
	return sumOf(pairs), len(pairs), api.OK
}

func (r *reading) entry(version, part, at int) (api.Pair, api.Errno) {
	pairs, e := r.scan(version, part)
	switch {
	case e != api.OK:
		return api.Pair{}, e
	case at < 0:
		return api.Pair{}, api.ErrArg
	case at >= len(pairs):
		return api.Pair{}, api.ErrEnd
	}
	return pairs[at], api.OK
}
