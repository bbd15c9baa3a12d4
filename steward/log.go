package steward

import (
	"cmp"

	"granary/acts"
	"granary/api"
	"granary/joblog"
)

const rootName = ""

// begun is what is written of a job ahead of its first message. A look has nothing that could be taken back, so it is never open.
func begun(number, kind, version int) joblog.Entry {
	j := joblog.Entry{Number: number, Kind: kind, Version: version, Outcome: joblog.Open}
	if kind == api.JobLook {
		j.Outcome = api.Incomplete
	}
	return j
}

// read tells what the log says. There may be none.
func (s *Steward) read() (joblog.Entry, api.Errno) {
	text, e := s.disk.Read(joblog.Name, 0, api.MaxDisk)
	switch e {
	case api.OK:
		return joblog.Parse(text)
	case api.ErrNone:
		return joblog.Entry{}, api.OK
	}
	return joblog.Entry{}, e
}

// sweep takes away what a write that was broken off has left.
func (s *Steward) sweep() api.Errno {
	d := s.disk
	switch _, e := d.Kind(joblog.NewName); e {
	case api.OK:
		return acts.Run(acts.On(joblog.NewName, d.Remove), acts.On(rootName, d.SyncDir))
	case api.ErrNone:
		return api.OK
	default:
		return e
	}
}

// write lets the log say this. Whatever crashes within, the last log is there or this one. Where there is no room for it nothing of it is left.
func (s *Steward) write(log joblog.Entry) api.Errno {
	d := s.disk
	e := acts.Run(
		acts.On(joblog.NewName, d.Create),
		acts.On(joblog.NewName, acts.With(d.Append, log.Text())),
		acts.On(joblog.NewName, d.Sync),
		acts.On(joblog.NewName, acts.With(d.Rename, joblog.Name)),
		acts.On(rootName, d.SyncDir),
	)
	switch e {
	case api.OK:
		s.last = log
	case api.ErrFull: // none of them but the Append answers this
		return cmp.Or(d.Remove(joblog.NewName), e)
	}
	return e
}
