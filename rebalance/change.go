package rebalance

import (
	"slices"

	"granary/api"
	"granary/plain"
	"granary/ring"
)

// change is two definitions that fit.
type change struct {
	was, next api.Cluster
	owners    [][]int // by was, of each partition
}

// compare tells whether two definitions fit.
func compare(was, next api.Cluster) (change, api.Errno) {
	if e := ring.Check(was); e != api.OK {
		return change{}, e
	}
	if e := ring.Check(next); e != api.OK {
		return change{}, e
	}
	parts := plain.Parts(was)
	if was.Store != next.Store || parts != plain.Parts(next) || was.Width != next.Width || was.Chunks != next.Chunks {
		return change{}, api.ErrOther
	}
	c := change{was: was, next: next}
	for part := range parts {
		owners, _ := ring.Owners(was, part) // was is valid, and has that partition
		c.owners = append(c.owners, owners)
	}
	return c, api.OK
}

// giver is a node of was that has a partition, with its replica's number.
type giver struct {
	node, replica int
}

// givers are all that have a partition, in the order in which a node asks them for it: itself first.
func (c change) givers(part, node int) []giver {
	var list []giver
	for replica, owner := range c.owners[part] {
		list = append(list, giver{owner, replica})
	}
	if own := slices.Index(c.owners[part], node); own >= 0 {
		list = slices.Concat(list[own:own+1], list[:own], list[own+1:])
	}
	return list
}
