package fetch

import (
	"slices"

	"granary/acts"
	"granary/api"
	"granary/digest"
	"granary/paper"
	"granary/plain"
)

// left is what a directory that can be taken up has for a journal.
type left struct {
	journal bool
	notes   []api.Note
	good    int // the notes' bytes
}

// said is what the journal says of a row.
type said struct {
	upto, sum int
	whole     bool
}

func (j *Job) begin(manifest string, there bool) api.Errno {
	j.phase = api.FetchRunning
	if there {
		if l, ok := j.look(manifest); ok {
			return j.takeUp(l)
		}
	}
	return j.anew(manifest, there)
}

func (j *Job) beginNote(manifest string) api.Note {
	return api.Note{Kind: api.NoteBegin, File: j.version, Crc: digest.CRC(manifest)}
}

// anew lays out the directory. What is there is in the way.
func (j *Job) anew(manifest string, there bool) api.Errno {
	d, text, journal := j.disk, j.path(plain.ManifestName), j.path(journalName)
	var list []acts.Act
	if there {
		list = sweeping(d, j.dir)
	}
	list = append(list,
		acts.On(j.dir, d.Mkdir),
		acts.On(text, d.Create), acts.On(text, acts.With(d.Append, manifest)), acts.On(text, d.Sync),
		acts.On(journal, d.Create), acts.On(journal, acts.With(d.Append, line(j.beginNote(manifest)))), acts.On(journal, d.Sync))
	for _, r := range j.rows {
		list = append(list, acts.On(j.path(r.Name), d.Create))
	}
	list = append(list, acts.On(j.dir, d.SyncDir), acts.On(parent(j.dir), d.SyncDir))
	if e := acts.Run(list...); e != api.OK {
		return e
	}
	for at := range j.rows {
		j.rows[at].whole = j.rows[at].Size == 0
	}
	return j.endIfWhole()
}

// look tells whether the directory can be taken up.
func (j *Job) look(manifest string) (left, bool) {
	journal, ok := j.lists()
	if !ok || j.read(plain.ManifestName) != manifest {
		return left{}, false
	}
	if !journal {
		return left{}, !slices.ContainsFunc(j.rows, func(r row) bool { return !j.fits(r) })
	}
	notes, good := paper.ParseNotes(j.read(journalName))
	return left{true, notes, good}, len(notes) > 0 && notes[0] == j.beginNote(manifest)
}

// lists tells whether the directory has just the files that it may have, and whether the journal is among them.
func (j *Job) lists() (journal, ok bool) {
	list, _ := j.disk.List(j.dir)
	belong := 0
	for _, entry := range list {
		if entry.Kind != api.IsFile {
			return false, false
		}
		if entry.Name == journalName {
			journal = true
		} else if entry.Name == plain.ManifestName || j.hasRow(entry.Name) {
			belong++
		} else {
			return false, false
		}
	}
	return journal, belong == len(j.rows)+1
}

func (j *Job) hasRow(name string) bool {
	return slices.ContainsFunc(j.rows, func(r row) bool { return r.Name == name })
}

// takeUp goes on where a job was broken off.
func (j *Job) takeUp(l left) api.Errno {
	if e := acts.Run(j.securing(l)...); e != api.OK {
		return e
	}
	for at, s := range j.saidOfAll(l) {
		if e := j.takeUpRow(at, s); e != api.OK && e != api.ErrWhole { // a file that begins anew is no failure here
			return e
		}
	}
	if !l.journal {
		j.phase = api.FetchDone
		return api.OK
	}
	return j.endIfWhole()
}

// securing are the acts by which what the directory says becomes safe, whoever laid it there.
func (j *Job) securing(l left) []acts.Act {
	d := j.disk
	var list []acts.Act
	if l.journal {
		list = j.cutting(journalName, l.good)
	}
	return append(list, acts.On(j.path(plain.ManifestName), d.Sync), acts.On(j.dir, d.SyncDir), acts.On(parent(j.dir), d.SyncDir))
}

// cutting are the acts by which no more than a file's first bytes stay, and these are safe.
func (j *Job) cutting(name string, size int) []acts.Act {
	var list []acts.Act
	if j.size(name) > size {
		list = append(list, acts.On(j.path(name), acts.With(j.disk.Truncate, size)))
	}
	return append(list, acts.On(j.path(name), j.disk.Sync))
}

// saidOfAll is what is said of each row. Without a journal all are whole: else the directory could not be taken up.
func (j *Job) saidOfAll(l left) []said {
	all := make([]said, len(j.rows))
	for at := range all {
		all[at].whole = !l.journal
	}
	for _, n := range l.notes {
		if n.File >= len(all) {
			continue
		}
		switch {
		case n.Kind == api.NoteFile:
			all[n.File].whole = true
		case n.Kind == api.NoteBlock && n.Upto <= j.rows[n.File].Size:
			all[n.File] = said{upto: n.Upto, sum: n.Crc}
		}
	}
	return all
}

// takeUpRow goes by what is said of a row as far as its file's bytes bear it out.
func (j *Job) takeUpRow(at int, s said) api.Errno {
	r := &j.rows[at]
	switch {
	case s.whole && j.fits(*r):
		r.safe, r.whole = r.Size, true
	case r.Size == 0:
		r.whole = true
	case j.begins(*r, s.upto, s.sum):
		r.safe, r.sum = s.upto, s.sum
	}
	if e := acts.Run(j.cutting(r.Name, r.safe)...); e != api.OK {
		return e
	}
	if r.whole || r.safe < r.Size {
		return api.OK
	}
	return j.follow(closing, at, "")
}
