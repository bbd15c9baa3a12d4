package inspect

import (
	"granary/api"
	"granary/disk"
	"granary/paper"
	"granary/partial"
	"granary/plain"
)

// safeIn is how many bytes a fetch that takes a partial directory up would find safe, or why none would go on with it.
func (s store) safeIn(dir string, version int) (int, api.Errno) {
	text, why := s.disk.Read(disk.Path(dir, plain.ManifestName), 0, api.MaxDisk)
	if why != api.OK {
		return 0, api.ErrMissing
	}
	m, why := paper.ParseManifest(text)
	if why != api.OK {
		return 0, why
	}
	if m.Store != s.cluster.Store || m.Version != version || m.Node != s.node {
		return 0, api.ErrOther
	}
	if why := partial.Check(m, s.cluster.Quota); why != api.OK {
		return 0, why
	}
	p := partial.At(s.disk, dir, text, m)
	left, why := p.Look()
	if why != api.OK {
		return 0, why
	}
	return safe(p, left), api.OK
}

// safe is the bytes of all rows that stay when a fetch has taken the directory up. It closes the files of which all bytes are there: one that does not fit its row begins anew.
func safe(p partial.Dir, left partial.Left) int {
	sum := 0
	for at, r := range p.Rows {
		h := p.Held(left, at)
		if h.Whole || h.Safe < r.Size || p.Starts(r) {
			sum += h.Safe
		}
	}
	return sum
}
