package disk

import (
	"bytes"
	"maps"

	"granary/api"
)

// root is the root's number; it is never an entry of anything.
const root = 0

// thing is a file or a directory. Its number is its own for good, so that it stays the same thing under another name. Kind 0: nothing.
type thing struct {
	number, kind int
}

// place is a name within a directory.
type place struct {
	dir  int
	name string
}

// state is all that a disk holds, as it is seen or as it is kept.
type state struct {
	entries map[place]thing
	bytes   map[int][]byte // by a file's number
}

const (
	changeNone   = iota // of a thing that can't come back: it only counts
	changeAppend        // data
	changeCut           // size
	changeNames         // gone, come, what, lost
)

// change concerns the bytes of one file, or the entries of one directory.
type change struct {
	order int // its place among all changes of the disk
	on    int // the file's or directory's number
	kind  int

	data string
	size int

	gone, come string // the name that goes, the name that comes; "": none
	what       thing  // what the name that comes stands for
	lost       thing  // what has no name any more
}

// found is a thing with the path that leads to it.
type found struct {
	path string
	what thing
}

func newState() state {
	return state{entries: map[place]thing{}, bytes: map[int][]byte{}}
}

func (s state) do(c change) {
	switch c.kind {
	case changeAppend:
		s.bytes[c.on] = append(s.bytes[c.on], c.data...)
	case changeCut:
		s.bytes[c.on] = s.bytes[c.on][:c.size]
	case changeNames:
		if c.gone != "" {
			delete(s.entries, place{c.on, c.gone})
		}
		if c.come != "" {
			s.entries[place{c.on, c.come}] = c.what
		}
	}
}

// tear does as much of a change as a loss of power lets through.
func (s state) tear(c change, torn int) {
	if c.kind != changeAppend {
		return
	}
	c.data = c.data[:min(max(torn, 0), len(c.data))]
	s.do(c)
}

// get is what a name of a directory stands for.
func (s state) get(dir int, name string) thing {
	return s.entries[place{dir, name}]
}

// follow goes the way of the names from the root on; all of them must be directories.
func (s state) follow(names []string) (int, api.Errno) {
	dir := root
	for _, name := range names {
		t := s.get(dir, name)
		if t.kind == 0 {
			return 0, api.ErrNone
		}
		if t.kind != api.IsDir {
			return 0, api.ErrKind
		}
		dir = t.number
	}
	return dir, api.OK
}

// filled tells whether a directory has entries.
func (s state) filled(dir int) bool {
	for p := range s.entries {
		if p.dir == dir {
			return true
		}
	}
	return false
}

// walk finds everything that a path leads to, the root first, the rest in no order.
func (s state) walk() []found {
	inside := map[int][]place{}
	for p := range s.entries {
		inside[p.dir] = append(inside[p.dir], p)
	}
	all := []found{{what: thing{root, api.IsDir}}}
	for i := 0; i < len(all); i++ {
		for _, p := range inside[all[i].what.number] {
			all = append(all, found{below(all[i].path, p.name), s.entries[p]})
		}
	}
	return all
}

func below(dir, name string) string {
	if dir == "" {
		return name
	}
	return Path(dir, name)
}

// sweep forgets what no path leads to.
func (s state) sweep() {
	kinds := map[int]int{}
	for _, f := range s.walk() {
		kinds[f.what.number] = f.what.kind
	}
	for p := range s.entries {
		if kinds[p.dir] == 0 {
			delete(s.entries, p)
		}
	}
	for number := range s.bytes {
		if kinds[number] == 0 {
			delete(s.bytes, number)
		}
	}
}

// copy is a state that shares no memory with this one: both get changed in their own time.
func (s state) copy() state {
	out := state{entries: maps.Clone(s.entries), bytes: map[int][]byte{}}
	for number, b := range s.bytes {
		out.bytes[number] = bytes.Clone(b)
	}
	return out
}

func (s state) size() int {
	sum := 0
	for _, b := range s.bytes {
		sum += len(b)
	}
	return sum
}
