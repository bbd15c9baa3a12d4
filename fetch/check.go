package fetch

import (
	"granary/api"
	"granary/digest"
	"granary/disk"
	"granary/paper"
	"granary/plain"
	"granary/throttle"
)

const (
	journalName = "journal"
	mostBlock   = 4096
)

// limited is a job of which nothing is known yet but how fast it may go on, and how often again.
func limited(lim api.Limits) (*Job, api.Errno) {
	if lim.Block < 1 || lim.Block > mostBlock || lim.Burst < lim.Block || lim.Quota < 0 || lim.Quota > api.MaxDisk {
		return nil, api.ErrArg
	}
	bucket, e := throttle.NewBucket(lim.Rate, lim.Per, lim.Burst)
	if e != api.OK {
		return nil, e
	}
	budget, e := throttle.NewBudget(lim.Tries, lim.Base, lim.Most)
	if e != api.OK {
		return nil, e
	}
	return &Job{block: lim.Block, bucket: bucket, budget: budget}, api.OK
}

// readManifest is a manifest whose files can be fetched.
func readManifest(text string, quota int) (api.Manifest, api.Errno) {
	m, e := paper.ParseManifest(text)
	if e != api.OK {
		return api.Manifest{}, e
	}
	for _, f := range m.Files {
		if f.Name == plain.ManifestName || f.Name == journalName {
			return api.Manifest{}, api.ErrFile
		}
	}
	if m.Total > quota {
		return api.Manifest{}, api.ErrQuota
	}
	for _, f := range m.Files {
		if f.Size == 0 && (f.Crc != digest.CRC() || f.Md5 != digest.MD5()) {
			return api.Manifest{}, api.ErrWhole
		}
	}
	return m, api.OK
}

// isDir tells whether there is a directory, where one may be.
func isDir(d *disk.Disk, dir string) (bool, api.Errno) {
	if dir == "" {
		return false, api.ErrPath
	}
	kind, e := d.Kind(dir)
	switch {
	case e == api.ErrNone:
		return false, api.OK
	case e != api.OK:
		return false, e
	case kind != api.IsDir:
		return false, api.ErrKind
	}
	return true, api.OK
}
