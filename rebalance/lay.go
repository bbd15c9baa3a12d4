package rebalance

import (
	"granary/acts"
	"granary/api"
	"granary/disk"
	"granary/plain"
)

// mayLay tells whether a directory with so many bytes may be laid there.
func mayLay(d *disk.Disk, dir string, bytes int) api.Errno {
	switch _, e := d.Kind(dir); e {
	case api.ErrNone:
	case api.OK:
		return api.ErrThere
	default:
		return e
	}
	if d.Capacity()-d.Used() < bytes {
		return api.ErrRoom
	}
	return api.OK
}

// laying are the acts by which a directory with these files comes to be, safe from a crash.
func laying(d *disk.Disk, dir string, files []file) []acts.Act {
	list := []acts.Act{acts.On(dir, d.Mkdir)}
	for _, f := range files {
		path := plain.Under(dir, f.name)
		list = append(list, acts.On(path, d.Create))
		if f.text != "" {
			list = append(list, acts.On(path, acts.With(d.Append, f.text)))
		}
		list = append(list, acts.On(path, d.Sync))
	}
	return append(list, acts.On(dir, d.SyncDir), acts.On(plain.Parent(dir), d.SyncDir))
}
