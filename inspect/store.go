package inspect

import (
	"granary/api"
	"granary/disk"
	"granary/paper"
	"granary/plain"
	"granary/shelf"
)

// store is a node's disk, with whose it is.
type store struct {
	disk    *disk.Disk
	cluster api.Cluster
	node    int
}

// inside looks at what the store holds. Of the directory itself nothing is told.
func (s store) inside(f api.Finding, e entry) []api.Finding {
	if !e.isDir {
		return only(broken(f, api.ErrKind))
	}
	return find(s.disk, e.path, []meaning{
		{plain.LatestName, api.FindGood, s.latest},
		{plain.NewLatestName, api.FindLeft, nil},
		{plain.TrashBegin, api.FindLeft, nil},
		{plain.VersionBegin, api.FindGood, s.version},
		{plain.FetchBegin, api.FindPartial, s.partial},
	})
}

// latest looks whether the pointer can be read, and what it names is whole.
func (s store) latest(f api.Finding, _ entry) []api.Finding {
	text, why := s.disk.Read(f.Path, 0, api.MaxDisk)
	if why != api.OK {
		return only(broken(f, api.ErrPointer))
	}
	p, why := paper.ParsePointer(text)
	if why != api.OK {
		return only(broken(f, api.ErrPointer))
	}
	f.Version = p.Cur
	if p.Cur != 0 && !s.isWhole(p.Cur) {
		f = broken(f, api.ErrCurrent)
	}
	return only(f)
}

func (s store) isWhole(version int) bool {
	_, why := s.open(disk.Path(plain.StoreName, plain.NameOf(plain.VersionBegin, version)), version)
	return why == api.OK
}

func (s store) open(path string, version int) (*shelf.Shelf, api.Errno) {
	return shelf.Open(s.disk, path, s.cluster, s.node, version)
}

// version looks whether a version is whole.
func (s store) version(f api.Finding, e entry) []api.Finding {
	v, why := s.open(e.path, f.Version)
	if why != api.OK {
		return only(broken(f, why))
	}
	f.Count = v.Count()
	return only(f)
}

// partial looks how far a fetch is.
func (s store) partial(f api.Finding, e entry) []api.Finding {
	if !e.isDir {
		return only(foreign(e))
	}
	f.Count, f.Code = s.safeIn(e.path, f.Version)
	return only(f)
}
