package fetch

import (
	"granary/acts"
	"granary/api"
	"granary/digest"
	"granary/paper"
	"granary/partial"
)

// The steps that follow a block.
const (
	laying = iota
	closing
	ending
)

// follow does what follows a block, from one of the steps on: each leads to the next, unless there is more to come.
func (j *Job) follow(step, at int, data string) api.Errno {
	switch step {
	case laying:
		if e := j.layDown(at, data); e != api.OK {
			return e
		}
		if j.held[at].Safe < j.here.Rows[at].Size {
			return api.OK
		}
		fallthrough
	case closing:
		if e := j.closeFile(at); e != api.OK {
			return e
		}
		if j.current() < len(j.held) {
			return api.OK
		}
		fallthrough
	case ending:
		return j.end()
	}
	return api.OK
}

// endIfWhole ends a job that has just begun, if nothing is left to be asked for.
func (j *Job) endIfWhole() api.Errno {
	if j.phase != api.FetchRunning || j.current() < len(j.held) {
		return api.OK
	}
	return j.follow(ending, 0, "")
}

// layDown writes a block behind a row's safe bytes. They are written down as safe when they are: not earlier.
func (j *Job) layDown(at int, data string) api.Errno {
	d, h := j.here.Disk, &j.held[at]
	path := j.here.Of(j.here.Rows[at].Name)
	upto := h.Safe + len(data)
	sum, _ := digest.CRCJoin(h.Sum, digest.CRC(data), len(data))
	list := []acts.Act{acts.On(path, acts.With(d.Append, data)), acts.On(path, d.Sync)}
	list = append(list, j.noting(api.Note{Kind: api.NoteBlock, File: at, Upto: upto, Crc: sum})...)
	if e := acts.Run(list...); e != api.OK {
		return e
	}
	h.Safe, h.Sum = upto, sum
	return api.OK
}

// closeFile holds a file of which all bytes are there against its row. ErrWhole tells that it began anew.
func (j *Job) closeFile(at int) api.Errno {
	if !j.here.Fits(j.here.Rows[at]) {
		return j.empty(at)
	}
	if e := acts.Run(j.noting(api.Note{Kind: api.NoteFile, File: at})...); e != api.OK {
		return e
	}
	j.held[at].Whole = true
	j.budget.Clear(itemOf(at))
	return api.OK
}

// empty lets a file begin anew, since nobody can tell which of its blocks was forged.
func (j *Job) empty(at int) api.Errno {
	d, path := j.here.Disk, j.here.Of(j.here.Rows[at].Name)
	list := []acts.Act{acts.On(path, acts.With(d.Truncate, 0)), acts.On(path, d.Sync)}
	list = append(list, j.noting(api.Note{Kind: api.NoteBlock, File: at})...)
	if e := acts.Run(list...); e != api.OK {
		return e
	}
	j.held[at] = partial.Held{}
	return api.ErrWhole
}

// end takes the journal away: a directory without one is whole.
func (j *Job) end() api.Errno {
	list := append(j.noting(api.Note{Kind: api.NoteWhole}),
		acts.On(j.here.Of(partial.JournalName), j.here.Disk.Remove),
		acts.On(j.here.Path, j.here.Disk.SyncDir))
	if e := acts.Run(list...); e != api.OK {
		return e
	}
	j.phase = api.FetchDone
	return api.OK
}

// noting are the acts by which the journal says one thing more.
func (j *Job) noting(n api.Note) []acts.Act {
	d, path := j.here.Disk, j.here.Of(partial.JournalName)
	return []acts.Act{acts.On(path, acts.With(d.Append, line(n))), acts.On(path, d.Sync)}
}

// line is a note as the journal has it. What is noted here is always within a note's ranges.
func line(n api.Note) string {
	text, _ := paper.PrintNote(n)
	return text
}
