package sorter

import (
	"slices"

	"granary/api"
)

// giver gives rows in the order, one a call; ErrEnd, when it has none left.
type giver interface {
	next() (api.Row, api.Errno)
}

// pile gives rows that lie in memory, sorted.
type pile struct {
	rows []api.Row
}

func (p *pile) next() (api.Row, api.Errno) {
	if len(p.rows) == 0 {
		return api.Row{}, api.ErrEnd
	}
	row := p.rows[0]
	p.rows = p.rows[1:]
	return row, api.OK
}

// merge gives the rows of several givers as one. Of each it holds the next row alone, and tells what these weigh ahead of giving one away.
type merge struct {
	lanes []*lane
	holds func(weight int)
}

// lane is one of a merge's givers, with its next row once that is known.
type lane struct {
	from giver
	row  api.Row
	full bool
}

func newMerge(holds func(weight int), from ...giver) *merge {
	m := &merge{holds: holds}
	for _, g := range from {
		m.lanes = append(m.lanes, &lane{from: g})
	}
	return m
}

func (m *merge) next() (api.Row, api.Errno) {
	if e := m.fill(); e != api.OK {
		return api.Row{}, e
	}
	if len(m.lanes) == 0 {
		return api.Row{}, api.ErrEnd
	}
	weight := 0
	for _, l := range m.lanes {
		weight += weigh(l.row)
	}
	m.holds(weight)
	first := slices.MinFunc(m.lanes, func(a, b *lane) int { return order(a.row, b.row) })
	row := first.row
	first.row, first.full = api.Row{}, false
	return row, api.OK
}

// fill lets every lane know its next row, and leaves out those that have none.
func (m *merge) fill() api.Errno {
	for _, l := range m.lanes {
		if e := l.fill(); e != api.OK {
			return e
		}
	}
	m.lanes = slices.DeleteFunc(m.lanes, func(l *lane) bool { return !l.full })
	return api.OK
}

func (l *lane) fill() api.Errno {
	if l.full {
		return api.OK
	}
	row, e := l.from.next()
	if e == api.ErrEnd {
		return api.OK
	}
	l.row, l.full = row, e == api.OK
	return e
}

// drain hands on all rows that a giver has left, up to the first error.
func drain(from giver, to func(api.Row) api.Errno) api.Errno {
	for {
		row, e := from.next()
		if e == api.ErrEnd {
			return api.OK
		}
		if e != api.OK {
			return e
		}
		if e := to(row); e != api.OK {
			return e
		}
	}
}
