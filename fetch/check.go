package fetch

import (
	"granary/api"
	"granary/disk"
	"granary/paper"
	"granary/partial"
	"granary/throttle"
)

const mostBlock = 4096

// limited is a job of which nothing is known yet but how fast it may go on, and how often again.
func limited(lim api.Limits) (*Job, api.Errno) {
	if lim.Block < 1 || lim.Block > mostBlock || lim.Burst < lim.Block || lim.Quota < 0 || lim.Quota > api.MaxDisk {
		return nil, api.ErrArg
	}
	bucket, e := throttle.NewBucket(lim.Rate, lim.Per, lim.Burst)
	if e != api.OK {
		return nil, e
	}
	budget, e := throttle.NewBudget(lim.Tries, lim.Base, lim.Most)
	if e != api.OK {
		return nil, e
	}
	return &Job{block: lim.Block, bucket: bucket, budget: budget}, api.OK
}

// readManifest is a manifest whose files can be fetched.
func readManifest(text string, quota int) (api.Manifest, api.Errno) {
	m, e := paper.ParseManifest(text)
	if e != api.OK {
		return api.Manifest{}, e
	}
	if e := partial.Check(m, quota); e != api.OK {
		return api.Manifest{}, e
	}
	return m, api.OK
}

// isDir tells whether there is a directory, where one may be.
func isDir(d *disk.Disk, dir string) (bool, api.Errno) {
	if dir == "" {
		return false, api.ErrPath
	}
	kind, e := d.Kind(dir)
	switch {
	case e == api.ErrNone:
		return false, api.OK
	case e != api.OK:
		return false, e
	case kind != api.IsDir:
		return false, api.ErrKind
	}
	return true, api.OK
}
