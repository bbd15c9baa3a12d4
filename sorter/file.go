package sorter

import (
	"slices"
	"strconv"
	"strings"

	"granary/api"
	"granary/disk"
)

// settle brings what was held to the disk, and the runs down to as many as may be read at a time.
func (s *Sorter) settle() api.Errno {
	if len(s.held) > 0 {
		if e := s.flush(); e != api.OK {
			return e
		}
	}
	for len(s.runs) > s.fan {
		if e := s.mergeLowest(); e != api.OK {
			return e
		}
	}
	return api.OK
}

// flush makes the held rows into the next run.
func (s *Sorter) flush() api.Errno {
	path, e := s.create()
	if e != api.OK {
		return e
	}
	slices.SortFunc(s.held, order)
	var all strings.Builder
	all.Grow(s.weight)
	drain(&pile{s.held}, func(row api.Row) api.Errno {
		all.WriteString(write(row))
		return api.OK
	})
	s.held, s.weight = nil, 0
	return s.disk.Append(path, all.String())
}

// mergeLowest makes the lowest runs, as many as the fan, into the next one. They go when that is whole, so no row is ever on the disk more than twice.
func (s *Sorter) mergeLowest() api.Errno {
	from := s.open(s.runs[:s.fan])
	path, e := s.create()
	if e != api.OK {
		return e
	}
	e = drain(from, func(row api.Row) api.Errno { return s.disk.Append(path, write(row)) })
	if e != api.OK {
		return e
	}
	return s.removeLowest(s.fan)
}

// open gives the rows of these runs as one. Nothing is read till a row is asked for.
func (s *Sorter) open(runs []int) giver {
	var from []giver
	for _, number := range runs {
		from = append(from, &run{disk: s.disk, path: s.path(number)})
	}
	return newMerge(func(weight int) { s.note(weight) }, from...)
}

// create makes the next run's file. It is the sorter's from then on, whatever becomes of its bytes.
func (s *Sorter) create() (string, api.Errno) {
	path := s.path(s.last + 1)
	if e := s.disk.Create(path); e != api.OK {
		return "", e
	}
	s.last++
	s.runs = append(s.runs, s.last)
	return path, api.OK
}

// removeLowest takes away so many run files, the lowest number first.
func (s *Sorter) removeLowest(count int) api.Errno {
	for range count {
		if e := s.disk.Remove(s.path(s.runs[0])); e != api.OK {
			return e
		}
		s.runs = s.runs[1:]
	}
	return api.OK
}

func (s *Sorter) path(number int) string {
	return disk.Path(s.dir, "run-"+strconv.Itoa(number))
}
