package detector

import "granary/api"

// The plain reading of the chapter: all that was told, in a list; what a node's strikes and its ban's end are is read out of it anew each time.

type deed struct {
	node int
	good bool
	at   int // the time
}

type reading struct {
	nodes, strikes, ban int
	time                int
	deeds               []deed
}

func readNew(nodes, strikes, ban int) (*reading, api.Errno) {
	if nodes < 1 || nodes > 16 || strikes < 1 || strikes > 64 || ban < 1 || ban > 1024 {
		return nil, api.ErrArg
	}
	return &reading{nodes: nodes, strikes: strikes, ban: ban}, api.OK
}

func (r *reading) has(node int) bool { return 0 <= node && node < r.nodes }

func (r *reading) told(node int, good bool) api.Errno {
	if !r.has(node) {
		return api.ErrNode
	}
	r.deeds = append(r.deeds, deed{node, good, r.time})
	return api.OK
}

func (r *reading) good(node int) api.Errno { return r.told(node, true) }
func (r *reading) bad(node int) api.Errno  { return r.told(node, false) }

func (r *reading) tick() api.Errno {
	r.time++
	return api.OK
}

// end is a node's ban's end.
func (r *reading) end(node int) int {
	row, end := 0, 0
	for _, x := range r.deeds {
		switch {
		case x.node != node:
		case x.good:
			row, end = 0, 0
		default:
			row++
			if row >= r.strikes {
				end = x.at + r.ban
			}
		}
	}
	return end
}

func (r *reading) silent(node int) (bool, api.Errno) {
	if !r.has(node) {
		return false, api.ErrNode
	}
	return r.time < r.end(node), api.OK
}

// order goes through all ends that a ban can have now, one after the other.
func (r *reading) order(nodes []int) ([]int, api.Errno) {
	for _, node := range nodes {
		if !r.has(node) {
			return nil, api.ErrNode
		}
	}
	var list []int
	for _, node := range nodes {
		if r.time >= r.end(node) {
			list = append(list, node)
		}
	}
	for end := r.time + 1; end <= r.time+r.ban && len(list) < len(nodes); end++ {
		for _, node := range nodes {
			if r.end(node) == end {
				list = append(list, node)
			}
		}
	}
	return list, api.OK
}
