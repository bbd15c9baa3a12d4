package fetch

import (
	"granary/acts"
	"granary/api"
	"granary/partial"
	"granary/plain"
)

func (j *Job) begin(manifest string, there bool) api.Errno {
	j.phase = api.FetchRunning
	if there {
		if l, e := j.here.Look(); e == api.OK && j.here.Read(plain.ManifestName) == manifest {
			return j.takeUp(l)
		}
	}
	return j.anew(manifest, there)
}

// anew lays out the directory. What is there is in the way.
func (j *Job) anew(manifest string, there bool) api.Errno {
	d, dir := j.here.Disk, j.here.Path
	text, journal := j.here.Of(plain.ManifestName), j.here.Of(partial.JournalName)
	var list []acts.Act
	if there {
		list = sweeping(d, dir)
	}
	list = append(list,
		acts.On(dir, d.Mkdir),
		acts.On(text, d.Create), acts.On(text, acts.With(d.Append, manifest)), acts.On(text, d.Sync),
		acts.On(journal, d.Create), acts.On(journal, acts.With(d.Append, line(j.here.Begin))), acts.On(journal, d.Sync))
	for _, r := range j.here.Rows {
		list = append(list, acts.On(j.here.Of(r.Name), d.Create))
	}
	list = append(list, acts.On(dir, d.SyncDir), acts.On(plain.Parent(dir), d.SyncDir))
	if e := acts.Run(list...); e != api.OK {
		return e
	}
	for at, r := range j.here.Rows {
		j.held[at].Whole = r.Size == 0
	}
	return j.endIfWhole()
}

// takeUp goes on where a job was broken off.
func (j *Job) takeUp(l partial.Left) api.Errno {
	if e := acts.Run(j.securing(l)...); e != api.OK {
		return e
	}
	for at := range j.held {
		if e := j.takeUpRow(l, at); e != api.OK && e != api.ErrWhole { // a file that begins anew is no failure here
			return e
		}
	}
	if !l.Journal {
		j.phase = api.FetchDone
		return api.OK
	}
	return j.endIfWhole()
}

// securing are the acts by which what the directory says becomes safe, whoever laid it there.
func (j *Job) securing(l partial.Left) []acts.Act {
	d := j.here.Disk
	var list []acts.Act
	if l.Journal {
		list = j.cutting(partial.JournalName, l.Good)
	}
	return append(list,
		acts.On(j.here.Of(plain.ManifestName), d.Sync),
		acts.On(j.here.Path, d.SyncDir),
		acts.On(plain.Parent(j.here.Path), d.SyncDir))
}

// cutting are the acts by which no more than a file's first bytes stay, and these are safe.
func (j *Job) cutting(name string, size int) []acts.Act {
	d, path := j.here.Disk, j.here.Of(name)
	var list []acts.Act
	if j.here.Size(name) > size {
		list = append(list, acts.On(path, acts.With(d.Truncate, size)))
	}
	return append(list, acts.On(path, d.Sync))
}

// takeUpRow goes on with what is held of a row.
func (j *Job) takeUpRow(l partial.Left, at int) api.Errno {
	r, h := j.here.Rows[at], j.here.Held(l, at)
	j.held[at] = h
	if e := acts.Run(j.cutting(r.Name, h.Safe)...); e != api.OK {
		return e
	}
	if h.Whole || h.Safe < r.Size {
		return api.OK
	}
	return j.follow(closing, at, "")
}
