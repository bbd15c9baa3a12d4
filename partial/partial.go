// Package partial reads a directory into which a version is fetched, and tells how much of it need not be asked for again: see DOC.md, layer 11. It writes nothing.
package partial

import (
	"slices"
	"strings"

	"granary/api"
	"granary/digest"
	"granary/disk"
	"granary/paper"
	"granary/plain"
)

// JournalName is the name of the journal, which lies there till all is.
const JournalName = "journal"

// Dir is a partial directory, with what its manifest says of it.
type Dir struct {
	Disk  *disk.Disk
	Path  string
	Begin api.Note // the one with which its journal must begin
	Rows  []api.FileRow
}

// Left is what a job that was broken off has left.
type Left struct {
	Journal bool // there is one
	Good    int  // the journal's bytes that count

	said []Held // by row: what the journal says
}

// Held is how far a row's file is.
type Held struct {
	Safe  int // bytes that need not be asked for again
	Sum   int // their CRC
	Whole bool
}

// Check tells whether a manifest's files can be fetched.
func Check(m api.Manifest, quota int) api.Errno {
	for _, f := range m.Files {
		if f.Name == plain.ManifestName || f.Name == JournalName {
			return api.ErrFile
		}
	}
	if m.Total > quota {
		return api.ErrQuota
	}
	for _, f := range m.Files {
		if f.Size == 0 && (f.Crc != digest.CRC() || f.Md5 != digest.MD5()) {
			return api.ErrWhole
		}
	}
	return api.OK
}

// At is the directory at a path, by a manifest and its text.
func At(d *disk.Disk, path, text string, m api.Manifest) Dir {
	p := Dir{Disk: d, Path: strings.Clone(path), Begin: api.Note{Kind: api.NoteBegin, File: m.Version, Crc: digest.CRC(text)}}
	for _, f := range m.Files {
		f.Name = strings.Clone(f.Name) // else it would keep all of the manifest's text
		p.Rows = append(p.Rows, f)
	}
	return p
}

// Look tells what a job that was broken off has left, or why none can go on with it. (Whether the manifest that lies there is this one is not looked at.)
func (p Dir) Look() (Left, api.Errno) {
	journal, ok := p.lists()
	if !ok {
		return Left{}, api.ErrExtra
	}
	if !journal {
		return p.withoutJournal()
	}
	notes, good := paper.ParseNotes(p.Read(JournalName))
	if len(notes) == 0 || notes[0] != p.Begin {
		return Left{}, api.ErrForm
	}
	return Left{Journal: true, Good: good, said: p.saidIn(notes)}, api.OK
}

// lists tells whether the directory has just the files that it may have, and whether the journal is among them.
func (p Dir) lists() (journal, ok bool) {
	list, _ := p.Disk.List(p.Path)
	belong := 0
	for _, entry := range list {
		if entry.Kind != api.IsFile {
			return false, false
		}
		if entry.Name == JournalName {
			journal = true
		} else if entry.Name == plain.ManifestName || p.hasRow(entry.Name) {
			belong++
		} else {
			return false, false
		}
	}
	return journal, belong == len(p.Rows)+1
}

func (p Dir) hasRow(name string) bool {
	return slices.ContainsFunc(p.Rows, func(r api.FileRow) bool { return r.Name == name })
}

// withoutJournal tells of a directory that has none: all rows must be whole, since nothing else tells what is safe.
func (p Dir) withoutJournal() (Left, api.Errno) {
	if slices.ContainsFunc(p.Rows, func(r api.FileRow) bool { return !p.Fits(r) }) {
		return Left{}, api.ErrDamage
	}
	return Left{said: slices.Repeat([]Held{{Whole: true}}, len(p.Rows))}, api.OK
}

// saidIn is what notes say of each row: of what they say of one the last counts.
func (p Dir) saidIn(notes []api.Note) []Held {
	all := make([]Held, len(p.Rows))
	for _, n := range notes {
		if n.File >= len(all) {
			continue
		}
		switch {
		case n.Kind == api.NoteFile:
			all[n.File].Whole = true
		case n.Kind == api.NoteBlock && n.Upto <= p.Rows[n.File].Size:
			all[n.File] = Held{Safe: n.Upto, Sum: n.Crc}
		}
	}
	return all
}

// Held is what is said of a row, as far as its file's bytes bear it out. (A file of which all bytes are safe and which is not said to be whole has not been held against its row.)
func (p Dir) Held(l Left, at int) Held {
	r, said := p.Rows[at], l.said[at]
	switch {
	case said.Whole && p.Fits(r):
		return Held{Safe: r.Size, Whole: true}
	case r.Size == 0:
		return Held{Whole: true}
	case p.begins(r.Name, said.Safe, said.Sum):
		return Held{Safe: said.Safe, Sum: said.Sum}
	}
	return Held{}
}
