package engine

import (
	"granary/acts"
	"granary/api"
	"granary/disk"
	"granary/plain"
	"granary/shelf"
)

// Where the pointer lies, and where one is written ahead of taking its place.
const (
	latestPath = plain.StoreName + "/" + plain.LatestName
	newPath    = plain.StoreName + "/" + plain.NewLatestName
)

// Dir is the directory of a version.
func Dir(version int) string { return pathOf(plain.VersionBegin, version) }

// PartialDir is the directory of a version that is being fetched.
func PartialDir(version int) string { return pathOf(plain.FetchBegin, version) }

func pathOf(begin string, version int) string {
	if !plain.IsVersion(version) {
		return ""
	}
	return disk.Path(plain.StoreName, plain.NameOf(begin, version))
}

// take opens a version. If it is whole the engine has it.
func (e *Engine) take(version int) api.Errno {
	s, why := shelf.Open(e.disk, Dir(version), e.cluster, e.node, version)
	if why == api.OK {
		e.shelves[version] = s
	}
	return why
}

// discard takes a version away. It loses its name first: what is in part is never taken for a version.
func (e *Engine) discard(version int) api.Errno {
	d, trash := e.disk, pathOf(plain.TrashBegin, version)
	delete(e.shelves, version)
	if why := e.run(acts.On(Dir(version), acts.With(d.Rename, trash)), acts.On(plain.StoreName, d.SyncDir)); why != api.OK {
		return why
	}
	return e.run(append(acts.Removing(d, trash), acts.On(plain.StoreName, d.SyncDir))...)
}

// Admit makes a partial directory that is whole a version.
func (e *Engine) Admit(version int) api.Errno {
	if why := e.ready(); why != api.OK {
		return why
	}
	if !plain.IsVersion(version) {
		return api.ErrVersion
	}
	if e.has(version) {
		return api.OK
	}
	dir := PartialDir(version)
	if why := e.isPartial(dir); why != api.OK {
		return why
	}
	if _, why := shelf.Open(e.disk, dir, e.cluster, e.node, version); why != api.OK {
		return why
	}
	if why := e.run(e.admitting(dir, version)...); why != api.OK {
		return why
	}
	return e.take(version) // a shelf stays with its path, so it is another one
}

func (e *Engine) isPartial(dir string) api.Errno {
	kind, why := e.disk.Kind(dir)
	switch {
	case why == api.ErrDown:
		return why
	case why != api.OK || kind != api.IsDir:
		return api.ErrPartial
	}
	return api.OK
}

// admitting are the acts by which a directory gets a version's name: when all that is in it is safe, not earlier.
func (e *Engine) admitting(dir string, version int) []acts.Act {
	d := e.disk
	inside, _ := d.List(dir)
	var list []acts.Act
	for _, entry := range inside {
		list = append(list, acts.On(disk.Path(dir, entry.Name), d.Sync))
	}
	return append(list,
		acts.On(dir, d.SyncDir),
		acts.On(dir, acts.With(d.Rename, Dir(version))),
		acts.On(plain.StoreName, d.SyncDir))
}

// Prune takes old versions away, and tells which.
func (e *Engine) Prune() ([]int, api.Errno) {
	if why := e.ready(); why != api.OK {
		return nil, why
	}
	old := e.old()
	for _, version := range old {
		if why := e.discard(version); why != api.OK {
			return nil, why
		}
	}
	return old, api.OK
}

// old is the versions that are neither among the greatest, nor what the node serves or could go back to.
func (e *Engine) old() []int {
	versions := e.versions()
	var old []int
	for _, version := range versions[:max(0, len(versions)-e.cluster.Retain)] {
		if version != e.latest.Cur && version != e.latest.Prev {
			old = append(old, version)
		}
	}
	return old
}
