package partial

import (
	"strings"
	"testing"

	"granary/api"
	"granary/digest"
	"granary/disk"
	"granary/paper"
)

// rowOf is a row that these bytes fit.
func rowOf(name, data string) api.FileRow {
	return api.FileRow{Name: name, Size: len(data), Crc: digest.CRC(data), Md5: digest.MD5(data)}
}

// laid is a directory of two rows, with what lies in it.
func laid(t *testing.T, journal bool, files map[string]string, notes ...api.Note) Dir {
	t.Helper()
	d, _ := disk.New(api.MaxDisk)
	p := At(d, "dir", "text", api.Manifest{Version: 5, Files: []api.FileRow{rowOf("data", "abcdef"), rowOf("meta", "xyz")}})
	d.Mkdir("dir")
	for name, data := range files {
		d.Create(p.Of(name))
		d.Append(p.Of(name), data)
	}
	if journal {
		d.Create(p.Of(JournalName))
		for _, n := range notes {
			line, e := paper.PrintNote(n)
			if e != api.OK {
				t.Fatal(e)
			}
			d.Append(p.Of(JournalName), line)
		}
	}
	return p
}

func lookIs(t *testing.T, what string, p Dir, want api.Errno, held ...Held) {
	t.Helper()
	acts := p.Disk.Acts()
	l, e := p.Look()
	if e != want {
		t.Errorf("%s: %d, want %d", what, e, want)
	}
	for at, h := range held {
		if got := p.Held(l, at); got != h {
			t.Errorf("%s: of the row %d %v is held, want %v", what, at, got, h)
		}
	}
	if p.Disk.Acts() != acts {
		t.Errorf("%s: something was written", what)
	}
}

func TestLook(t *testing.T) {
	files := map[string]string{"manifest": "text", "data": "abcdef", "meta": "xyz"}
	begin := api.Note{Kind: api.NoteBegin, File: 5, Crc: digest.CRC("text")}
	block := api.Note{Kind: api.NoteBlock, Upto: 4, Crc: digest.CRC("abcd")}
	lookIs(t, "whole", laid(t, false, files), api.OK, Held{Safe: 6, Whole: true}, Held{Safe: 3, Whole: true})
	lookIs(t, "begun", laid(t, true, files, begin), api.OK, Held{}, Held{})
	lookIs(t, "a block", laid(t, true, files, begin, block), api.OK, Held{Safe: 4, Sum: block.Crc}, Held{})
	lookIs(t, "a file", laid(t, true, files, begin, api.Note{Kind: api.NoteFile, File: 1}), api.OK, Held{}, Held{Safe: 3, Whole: true})
	lookIs(t, "no notes", laid(t, true, files), api.ErrForm)
	lookIs(t, "another begin", laid(t, true, files, block, begin), api.ErrForm)
	files["data"] = "abcd" + "xx"
	lookIs(t, "a block of other bytes", laid(t, true, files, begin, block), api.OK, Held{Safe: 4, Sum: block.Crc}, Held{})
	lookIs(t, "not whole", laid(t, false, files), api.ErrDamage)
	files["x"] = ""
	lookIs(t, "a file more", laid(t, true, files, begin), api.ErrExtra)
	delete(files, "x")
	delete(files, "meta")
	lookIs(t, "a file fewer", laid(t, true, files, begin), api.ErrExtra)
}

func TestCheck(t *testing.T) {
	empty := rowOf("empty", "")
	odd := empty
	odd.Crc = 1
	for _, x := range []struct {
		m    api.Manifest
		want api.Errno
	}{
		{api.Manifest{}, api.OK},
		{api.Manifest{Total: 10, Files: []api.FileRow{rowOf("x", strings.Repeat("x", 10)), empty}}, api.OK},
		{api.Manifest{Total: 11, Files: []api.FileRow{odd, {Name: "journal"}}}, api.ErrFile},
		{api.Manifest{Total: 11, Files: []api.FileRow{odd, {Name: "manifest"}}}, api.ErrFile},
		{api.Manifest{Total: 11, Files: []api.FileRow{odd}}, api.ErrQuota},
		{api.Manifest{Total: 10, Files: []api.FileRow{odd}}, api.ErrWhole},
	} {
		if e := Check(x.m, 10); e != x.want {
			t.Errorf("%v: %d, want %d", x.m, e, x.want)
		}
	}
}
