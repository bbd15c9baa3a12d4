package steward

import (
	"cmp"

	"granary/acts"
	"granary/api"
)

// The names on the steward's disk.
const (
	rootName = ""
	logName  = "job"
	newName  = "job.new" // where a log is written, ahead of taking the last one's place
)

// read tells what the log says. There may be none.
func (s *Steward) read() (entry, api.Errno) {
	text, e := s.disk.Read(logName, 0, api.MaxDisk)
	switch e {
	case api.OK:
		return parse(text)
	case api.ErrNone:
		return entry{}, api.OK
	}
	return entry{}, e
}

// sweep takes away what a write that was broken off has left.
func (s *Steward) sweep() api.Errno {
	d := s.disk
	switch _, e := d.Kind(newName); e {
	case api.OK:
		return acts.Run(acts.On(newName, d.Remove), acts.On(rootName, d.SyncDir))
	case api.ErrNone:
		return api.OK
	default:
		return e
	}
}

// write lets the log say this. Whatever crashes within, the last log is there or this one. Where there is no room for it nothing of it is left.
func (s *Steward) write(log entry) api.Errno {
	d := s.disk
	e := acts.Run(
		acts.On(newName, d.Create),
		acts.On(newName, acts.With(d.Append, log.text())),
		acts.On(newName, d.Sync),
		acts.On(newName, acts.With(d.Rename, logName)),
		acts.On(rootName, d.SyncDir),
	)
	switch e {
	case api.OK:
		s.last = log
	case api.ErrFull: // none of them but the Append answers this
		return cmp.Or(d.Remove(newName), e)
	}
	return e
}
