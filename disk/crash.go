package disk

import (
	"cmp"
	"slices"

	"granary/api"
)

// Arm lets k more acts be done; the next one takes the disk down. A negative k disarms.
func (d *Disk) Arm(k int) api.Errno {
	if e := d.ready(); e != api.OK {
		return e
	}
	d.armed, d.left = k >= 0, max(k, 0)
	return api.OK
}

// Down tells whether the disk is down.
func (d *Disk) Down() bool {
	return !d.none() && d.down
}

// Crash is a loss of power: the first keep changes that are not safe survive, and torn bytes of the next one, if it is an Append. It answers how many changes were lost. The disk is up behind it.
func (d *Disk) Crash(keep, torn int) int {
	if d.none() {
		return 0
	}
	list := d.inOrder()
	keep = min(max(keep, 0), len(list))
	for _, c := range list[:keep] {
		d.kept.do(c)
	}
	if keep < len(list) {
		d.kept.tear(list[keep], torn)
	}
	d.restart()
	return len(list) - keep
}

// inOrder is all pending changes, in the order in which they were made.
func (d *Disk) inOrder() []change {
	var list []change
	for _, some := range d.pending {
		list = append(list, some...)
	}
	slices.SortFunc(list, func(a, b change) int { return cmp.Compare(a.order, b.order) })
	return list
}

// restart lets what is kept be what is seen.
func (d *Disk) restart() {
	d.kept.sweep()
	d.seen = d.kept.copy()
	d.used = d.seen.size()
	d.pending, d.waiting = map[int][]change{}, 0
	d.armed, d.left, d.down = false, 0, false
}
