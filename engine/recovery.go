package engine

import (
	"granary/acts"
	"granary/api"
	"granary/disk"
	"granary/paper"
	"granary/plain"
)

// step is one of those by which a store is opened.
type step struct {
	name string
	do   func() api.Errno
}

// recovery is the steps, in their order. Those that may refuse a store come ahead of those that take something away.
func (e *Engine) recovery() []step {
	return []step{
		{"root", e.root},
		{"pointer", e.pointer},
		{"current", e.current},
		{"litter", e.litter},
		{"others", e.others},
	}
}

// root makes the store, if there is none.
func (e *Engine) root() api.Errno {
	kind, why := e.disk.Kind(plain.StoreName)
	switch {
	case why == api.ErrNone:
		return e.run(acts.On(plain.StoreName, e.disk.Mkdir), acts.On("", e.disk.SyncDir))
	case why != api.OK:
		return why
	case kind != api.IsDir:
		return api.ErrKind
	}
	return api.OK
}

// pointer reads which version is current. Without the file none is.
func (e *Engine) pointer() api.Errno {
	text, why := e.disk.Read(latestPath, 0, api.MaxDisk)
	if why == api.ErrNone {
		return api.OK
	}
	if why != api.OK {
		return api.ErrPointer
	}
	if e.latest, why = paper.ParsePointer(text); why != api.OK {
		return api.ErrPointer
	}
	return api.OK
}

// current opens the version that the pointer names.
func (e *Engine) current() api.Errno {
	if e.latest.Cur != 0 && e.take(e.latest.Cur) != api.OK {
		return api.ErrCurrent
	}
	return api.OK
}

// litter takes away a pointer that did not get its name, and versions that had lost theirs. The disk lists them by rising names.
func (e *Engine) litter() api.Errno {
	list, _ := e.disk.List(plain.StoreName)
	var away []acts.Act
	for _, entry := range list {
		if _, trash := plain.VersionOf(plain.TrashBegin, entry.Name); trash || entry.Name == plain.NewLatestName {
			away = append(away, acts.Removing(e.disk, disk.Path(plain.StoreName, entry.Name))...)
		}
	}
	if len(away) == 0 {
		return api.OK
	}
	return e.run(append(away, acts.On(plain.StoreName, e.disk.SyncDir))...)
}

// others opens all versions but the current one, and discards what is not whole.
func (e *Engine) others() api.Errno {
	list, _ := e.disk.List(plain.StoreName)
	for _, entry := range list {
		version, ok := plain.VersionOf(plain.VersionBegin, entry.Name)
		if !ok || e.has(version) || e.take(version) == api.OK {
			continue
		}
		if why := e.discard(version); why != api.OK {
			return why
		}
	}
	return api.OK
}
