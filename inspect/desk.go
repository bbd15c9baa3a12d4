package inspect

import (
	"granary/api"
	"granary/disk"
	"granary/joblog"
)

// desk is the controller's disk.
type desk struct {
	disk *disk.Disk
}

// job looks what the log says of the last job.
func (k desk) job(f api.Finding, _ entry) []api.Finding {
	text, why := k.disk.Read(f.Path, 0, api.MaxDisk)
	if why != api.OK {
		return only(broken(f, why))
	}
	j, why := joblog.Parse(text)
	if why != api.OK {
		return only(broken(f, why))
	}
	if j.IsOpen() {
		f.Kind = api.FindPartial
	}
	f.Version, f.Count = j.Version, j.Number
	return only(f)
}

// newJob looks whether a Boot could take away what a write that was broken off has left.
func (k desk) newJob(f api.Finding, _ entry) []api.Finding {
	for range entries(k.disk, f.Path) {
		return only(broken(f, api.ErrFilled))
	}
	return only(f)
}
