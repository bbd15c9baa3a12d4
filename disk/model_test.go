package disk

import (
	"fmt"
	"sort"
	"strings"
	"testing"

	"granary/api"
)

// model is the chapter's words taken one by one, with no thought of speed: things are pointers, each with what is seen and what is kept of it, and one list has all pending changes.
type model struct {
	capacity, acts, reads, fuse int
	down                        bool
	root                        *node
	pending                     []pend
}

type node struct {
	kind       int
	seen, kept string
	see, keep  map[string]*node
}

type pend struct {
	on   *node
	do   func(all int)
	torn bool // an Append
	size int
}

func newNode(kind int) *node {
	return &node{kind: kind, see: map[string]*node{}, keep: map[string]*node{}}
}

// at finds the parent and the thing.
func (m *model) at(path string) (dir, there *node, last string, e api.Errno) {
	if path == "" {
		return nil, m.root, "", api.OK
	}
	names := strings.Split(path, "/")
	dir = m.root
	for _, name := range names[:len(names)-1] {
		next := dir.see[name]
		if next == nil {
			return nil, nil, "", api.ErrNone
		}
		if next.kind != api.IsDir {
			return nil, nil, "", api.ErrKind
		}
		dir = next
	}
	last = names[len(names)-1]
	return dir, dir.see[last], last, api.OK
}

func (m *model) act() api.Errno {
	if m.fuse == 0 {
		m.down = true
		return api.ErrDown
	}
	if m.fuse > 0 {
		m.fuse--
	}
	m.acts++
	return api.OK
}

func (m *model) make(path string, kind int) api.Errno {
	dir, there, last, e := m.at(path)
	if e != api.OK {
		return e
	}
	if there != nil {
		return api.ErrThere
	}
	if e := m.act(); e != api.OK {
		return e
	}
	made := newNode(kind)
	dir.see[last] = made
	m.pending = append(m.pending, pend{on: dir, do: func(int) { dir.keep[last] = made }})
	return api.OK
}

func (m *model) of(path string, kind int) (*node, api.Errno) {
	_, there, _, e := m.at(path)
	switch {
	case e != api.OK:
		return nil, e
	case there == nil:
		return nil, api.ErrNone
	case there.kind != kind:
		return nil, api.ErrKind
	}
	return there, api.OK
}

func (m *model) append(path, data string) api.Errno {
	f, e := m.of(path, api.IsFile)
	if e != api.OK {
		return e
	}
	if m.used(m.root)+len(data) > m.capacity {
		return api.ErrFull
	}
	if e := m.act(); e != api.OK {
		return e
	}
	f.seen += data
	m.pending = append(m.pending, pend{f, func(n int) { f.kept += data[:n] }, true, len(data)})
	return api.OK
}

func (m *model) truncate(path string, size int) api.Errno {
	f, e := m.of(path, api.IsFile)
	if e != api.OK {
		return e
	}
	if size > len(f.seen) {
		return api.ErrEnd
	}
	if e := m.act(); e != api.OK {
		return e
	}
	f.seen = f.seen[:size]
	m.pending = append(m.pending, pend{on: f, do: func(int) { f.kept = f.kept[:size] }})
	return api.OK
}

func parent(path string) string {
	return path[:strings.LastIndex(path, "/")+1]
}

func (m *model) rename(from, to string) api.Errno {
	if from == "" || to == "" {
		return api.ErrPath
	}
	if parent(from) != parent(to) {
		return api.ErrCross
	}
	dir, what, old, e := m.at(from)
	if e != api.OK {
		return e
	}
	_, there, name, _ := m.at(to)
	if what == nil {
		return api.ErrNone
	}
	if there != nil && !(what.kind == api.IsFile && there.kind == api.IsFile && from != to) {
		return api.ErrThere
	}
	if e := m.act(); e != api.OK {
		return e
	}
	delete(dir.see, old)
	dir.see[name] = what
	m.pending = append(m.pending, pend{on: dir, do: func(int) { delete(dir.keep, old); dir.keep[name] = what }})
	return api.OK
}

func (m *model) remove(path string) api.Errno {
	if path == "" {
		return api.ErrPath
	}
	dir, there, last, e := m.at(path)
	if e != api.OK {
		return e
	}
	if there == nil {
		return api.ErrNone
	}
	if len(there.see) > 0 {
		return api.ErrFilled
	}
	if e := m.act(); e != api.OK {
		return e
	}
	delete(dir.see, last)
	m.pending = append(m.pending, pend{on: dir, do: func(int) { delete(dir.keep, last) }})
	return api.OK
}

func (m *model) sync(path string, kind int) api.Errno {
	on, e := m.of(path, kind)
	if e != api.OK {
		return e
	}
	if e := m.act(); e != api.OK {
		return e
	}
	var rest []pend
	for _, p := range m.pending {
		if p.on == on {
			p.do(p.size)
		} else {
			rest = append(rest, p)
		}
	}
	m.pending = rest
	return api.OK
}

func (m *model) crash(keep, torn int) int {
	lost := 0
	for i, p := range m.pending {
		switch {
		case i < keep:
			p.do(p.size)
		case i == max(keep, 0) && p.torn:
			p.do(min(max(torn, 0), p.size))
			lost++
		default:
			lost++
		}
	}
	m.pending, m.down, m.fuse = nil, false, -1
	m.settle(m.root)
	return lost
}

func (m *model) settle(n *node) {
	n.seen, n.see = n.kept, map[string]*node{}
	for name, x := range n.keep {
		n.see[name] = x
		m.settle(x)
	}
}

func (m *model) used(n *node) int {
	sum := len(n.seen)
	for _, x := range n.see {
		sum += m.used(x)
	}
	return sum
}

func (m *model) dump() string {
	var all []string
	var walk func(n *node, path string)
	walk = func(n *node, path string) {
		for name, x := range n.see {
			all = append(all, fmt.Sprintf("%s %s %q", path+name, kindName(x.kind), x.seen))
			walk(x, path+name+"/")
		}
	}
	walk(m.root, "")
	sort.Strings(all) // a blank is below every byte of a path
	return strings.Join(all, ", ")
}

// dice are the same for the same seed.
type dice uint64

func (r *dice) roll(n int) int {
	*r = *r*6364136223846793005 + 1442695040888963407
	return int(uint64(*r)>>33) % n
}

func (r *dice) path() string {
	names := []string{"a", "b", "c-", "c"}
	path := names[r.roll(4)]
	for range r.roll(3) {
		path += "/" + names[r.roll(4)]
	}
	if r.roll(30) == 0 {
		return ""
	}
	return path
}

// step does one call with both; the answers are one text each.
func step(r *dice, d *Disk, m *model) (what, got, want string) {
	path, other := r.path(), r.path()
	n, k := r.roll(8), r.roll(6)-1
	if r.roll(3) > 0 && path != "" {
		other = parent(path) + "b"
	}
	data := strings.Repeat(string(rune('a'+r.roll(26))), n)
	say := func(call string, e api.Errno, model func() api.Errno) {
		what, got = call, fmt.Sprint(e)
		if m.down {
			want = fmt.Sprint(api.ErrDown)
		} else {
			want = fmt.Sprint(model())
		}
	}
	switch r.roll(16) {
	case 0:
		say("Mkdir "+path, d.Mkdir(path), func() api.Errno { return m.make(path, api.IsDir) })
	case 1, 2, 3:
		say("Create "+path, d.Create(path), func() api.Errno { return m.make(path, api.IsFile) })
	case 4, 5, 6:
		say("Append "+path+" "+data, d.Append(path, data), func() api.Errno { return m.append(path, data) })
	case 7:
		say(fmt.Sprint("Truncate ", path, " ", n), d.Truncate(path, n), func() api.Errno { return m.truncate(path, n) })
	case 8, 9:
		say("Rename "+path+" "+other, d.Rename(path, other), func() api.Errno { return m.rename(path, other) })
	case 10, 11:
		say("Remove "+path, d.Remove(path), func() api.Errno { return m.remove(path) })
	case 12:
		say("Sync "+path, d.Sync(path), func() api.Errno { return m.sync(path, api.IsFile) })
	case 13:
		path = strings.TrimSuffix(parent(path), "/")
		say("SyncDir "+path, d.SyncDir(path), func() api.Errno { return m.sync(path, api.IsDir) })
	case 14:
		if r.roll(4) == 0 {
			say(fmt.Sprint("Arm ", 4*k), d.Arm(4*k), func() api.Errno { m.fuse = max(4*k, -1); return api.OK })
		}
	case 15:
		if m.down || r.roll(4) == 0 {
			keep := k * r.roll(4)
			what, got = fmt.Sprint("Crash ", keep, n-1), fmt.Sprint(d.Crash(keep, n-1))
			want = fmt.Sprint(m.crash(keep, n-1))
		}
	}
	return what, got, want
}

func TestAgainstTheModel(t *testing.T) {
	for seed := range 300 {
		r := dice(seed)
		d, _ := New(30)
		m := &model{capacity: 30, fuse: -1, root: newNode(api.IsDir)}
		for i := range 400 {
			what, got, want := step(&r, d, m)
			got += fmt.Sprint(" ", dumped(d), " ", d.Used(), d.Acts(), d.Pending(), d.Down())
			want += fmt.Sprint(" ", m.dump(), " ", m.used(m.root), m.acts, len(m.pending), m.down)
			if got != want {
				t.Fatalf("seed %d, step %d, %s:\n%s, want\n%s", seed, i, what, got, want)
			}
		}
	}
}
