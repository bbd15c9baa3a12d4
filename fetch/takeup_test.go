package fetch

import (
	"strings"
	"testing"

	"granary/api"
	"granary/disk"
)

// P11.4

// lies lays a directory there: the manifest of version 5 of the files ours, these bytes for the rows, and the journal's notes behind its first one. All is safe.
func lies(t *testing.T, data, index, meta string, lines ...string) *disk.Disk {
	t.Helper()
	d := stored(t)
	text := manifest(t, 5, ours())
	put(t, d, dir+"/manifest", text)
	put(t, d, dir+"/0_0_0.data", data)
	put(t, d, dir+"/0_0_0.index", index)
	put(t, d, dir+"/meta", meta)
	put(t, d, dir+"/journal", beginNote(5, text)+strings.Join(lines, ""))
	safe(t, d)
	return d
}

// four is a directory with four bytes of the first row safe.
func four(t *testing.T) *disk.Disk {
	t.Helper()
	return lies(t, "abcd", "", "", note(2, 0, 4, crc("abcd")))
}

func TestWhatCannotBeTakenUp(t *testing.T) {
	text := manifest(t, 5, ours())
	first := beginNote(5, text)
	journal := func(lines string) func(*disk.Disk) {
		return func(d *disk.Disk) { rewrite(t, d, dir+"/journal", lines+note(2, 0, 4, crc("abcd"))) }
	}
	for what, spoil := range map[string]func(d *disk.Disk){
		"a file too many":             func(d *disk.Disk) { put(t, d, dir+"/0", "") },
		"a file too many at the end":  func(d *disk.Disk) { put(t, d, dir+"/zz", "") },
		"a directory too many":        func(d *disk.Disk) { put(t, d, dir+"/more/", "") },
		"a row too few":               func(d *disk.Disk) { done(t, d.Remove(dir+"/meta")) },
		"an empty row too few":        func(d *disk.Disk) { done(t, d.Remove(dir+"/0_0_0.index")) },
		"a row of another name":       func(d *disk.Disk) { done(t, d.Rename(dir+"/meta", dir+"/metb")) },
		"a directory for a row":       func(d *disk.Disk) { done(t, d.Remove(dir+"/meta"), d.Mkdir(dir+"/meta")) },
		"no manifest":                 func(d *disk.Disk) { done(t, d.Remove(dir+"/manifest")) },
		"a directory for a manifest":  func(d *disk.Disk) { done(t, d.Remove(dir+"/manifest"), d.Mkdir(dir+"/manifest")) },
		"an empty manifest":           func(d *disk.Disk) { rewrite(t, d, dir+"/manifest", "") },
		"a manifest cut off":          func(d *disk.Disk) { rewrite(t, d, dir+"/manifest", text[:len(text)-1]) },
		"a longer manifest":           func(d *disk.Disk) { done(t, d.Append(dir+"/manifest", "\n")) },
		"another manifest":            func(d *disk.Disk) { rewrite(t, d, dir+"/manifest", manifest(t, 6, ours())) },
		"no journal":                  func(d *disk.Disk) { done(t, d.Remove(dir+"/journal")) },
		"a directory for a journal":   func(d *disk.Disk) { done(t, d.Remove(dir+"/journal"), d.Mkdir(dir+"/journal")) },
		"an empty journal":            func(d *disk.Disk) { rewrite(t, d, dir+"/journal", "") },
		"a journal without its first": journal(""),
		"a journal cut off":           func(d *disk.Disk) { rewrite(t, d, dir+"/journal", first[:len(first)-1]) },
		"a spoilt first note":         journal("2" + first[1:]),
		"litter ahead":                journal("\n" + first),
		"another version's":           journal(note(1, 6, 0, crc(text))),
		"another manifest's":          journal(note(1, 5, 0, crc(text)^1)),
		"a first note with an Upto":   journal(note(1, 5, 1, crc(text))),
		"another kind of note first":  journal(note(2, 5, 0, crc(text))),
		"a note ahead of the first":   journal(note(2, 0, 4, crc("abcd")) + first),
	} {
		d := four(t)
		spoil(d)
		safe(t, d)
		goesOn(t, what, begun(t, d), 0, 0, 0)
		same(t, what, under(d, dir), []string{"0_0_0.data=", "0_0_0.index=", "journal=" + first, "manifest=" + text, "meta="})
	}
	goesOn(t, "not spoilt", begun(t, four(t)), 0, 4, 4)
}

// What stands behind the good beginning of the journal does not count, and goes.
func TestJournalIsCut(t *testing.T) {
	good := beginNote(5, manifest(t, 5, ours())) + note(2, 0, 4, crc("abcd"))
	more := note(2, 0, 8, crc("abcdefgh"))
	for what, litter := range map[string]string{
		"nothing": "", "a byte": "x", "a line feed": "\n", "a note cut off": more[:len(more)-1], "half a note": more[:5],
		"a spoilt note": strings.Replace(more, "8", "9", 1), "a spoilt note and a good one": "2 0 8 0 0\n" + more, "an empty line and a good one": "\n" + more, "no kind of note": note(5, 0, 0, 0), "much": strings.Repeat("x", 1000),
	} {
		d := lies(t, "abcdefgh", "", "")
		rewrite(t, d, dir+"/journal", good+litter)
		goesOn(t, what, begun(t, d), 0, 4, 4)
		is(t, what, bytesOf(t, d, dir+"/journal"), good)
		is(t, what, bytesOf(t, d, dir+"/0_0_0.data"), "abcd")
	}
}

func TestNotesAreGoneThrough(t *testing.T) {
	all := "abcdefghij"
	block := func(upto int) string { return note(2, 0, upto, crc(all[:upto])) }
	whole := note(3, 0, 0, 0)
	for what, c := range map[string]struct {
		data          string
		lines         []string
		file, at, got int
		size          int // of the file, then
	}{
		"no note":                           {data: "abcd"},
		"one":                               {data: "abcd", lines: []string{block(4)}, at: 4, got: 4, size: 4},
		"the last one counts":               {data: "abcdefgh", lines: []string{block(2), block(4), block(8)}, at: 8, got: 8, size: 8},
		"a smaller one behind":              {data: "abcdefgh", lines: []string{block(8), block(4)}, at: 4, got: 4, size: 4},
		"begun anew":                        {data: "abcdefgh", lines: []string{block(8), note(2, 0, 0, 0)}},
		"nothing, with a sum":               {data: "abcd", lines: []string{block(4), note(2, 0, 0, 7)}},
		"a longer file":                     {data: "abcdefgh", lines: []string{block(4)}, at: 4, got: 4, size: 4},
		"a file beyond its size":            {data: all + all, lines: []string{block(9)}, at: 9, got: 9, size: 9},
		"a shorter file":                    {data: "abcdefg", lines: []string{block(4), block(8)}},
		"another sum":                       {data: "abcdefgh", lines: []string{block(4), note(2, 0, 8, 1)}},
		"other bytes":                       {data: "abXd", lines: []string{block(4)}},
		"other bytes behind":                {data: "abcdXXXX", lines: []string{block(4)}, at: 4, got: 4, size: 4},
		"one byte":                          {data: "a", lines: []string{block(1)}, at: 1, got: 1, size: 1},
		"all but one byte":                  {data: all, lines: []string{block(9)}, at: 9, got: 9, size: 9},
		"all bytes":                         {data: all, lines: []string{block(10)}, file: 2, got: 10, size: 10},
		"all bytes, and more":               {data: all + "x", lines: []string{block(10)}, file: 2, got: 10, size: 10},
		"an Upto above the Size":            {data: all + "x", lines: []string{block(4), note(2, 0, 11, crc(all+"x"))}, at: 4, got: 4, size: 4},
		"the greatest Upto":                 {data: "abcd", lines: []string{block(4), note(2, 0, latest, 0)}, at: 4, got: 4, size: 4},
		"a row that is not there":           {data: "abcd", lines: []string{block(4), note(2, 3, 0, 0), note(3, 3, 0, 0), note(2, latest, 0, 0), note(3, latest, 0, 0)}, at: 4, got: 4, size: 4},
		"whole":                             {data: all, lines: []string{block(10), whole}, file: 2, got: 10, size: 10},
		"whole without a block":             {data: all, lines: []string{whole}, file: 2, got: 10, size: 10},
		"whole behind another block":        {data: all, lines: []string{block(4), whole}, file: 2, got: 10, size: 10},
		"whole with other numbers":          {data: all, lines: []string{note(3, 0, 77, 78)}, file: 2, got: 10, size: 10},
		"whole, then a block":               {data: all, lines: []string{whole, block(4)}, at: 4, got: 4, size: 4},
		"whole, then all blocks":            {data: all, lines: []string{whole, block(10)}, file: 2, got: 10, size: 10},
		"whole, then a block that is none":  {data: all, lines: []string{whole, note(2, 0, 11, 0)}, file: 2, got: 10, size: 10},
		"whole, then anew, then whole":      {data: all, lines: []string{whole, note(2, 0, 0, 0), whole}, file: 2, got: 10, size: 10},
		"whole, and it is not":              {data: "abcdefghiX", lines: []string{block(4), whole}, at: 4, got: 4, size: 4},
		"whole, and it is short":            {data: "abcdefghi", lines: []string{block(4), whole}, at: 4, got: 4, size: 4},
		"whole, and it is long":             {data: all + "x", lines: []string{block(4), whole}, at: 4, got: 4, size: 4},
		"whole, long, all its bytes noted":  {data: all + "x", lines: []string{block(10), whole}, file: 2, got: 10, size: 10},
		"whole, and nothing of it is right": {data: "XXXXXXXXXX", lines: []string{block(10), whole}},
		"whole, without a block, it is not": {data: "abcdefghiX", lines: []string{whole}},
		"whole whole":                       {data: "abcd", lines: []string{block(4), note(4, 0, 0, 0)}, at: 4, got: 4, size: 4},
		"begun twice":                       {data: "abcd", lines: []string{block(4), beginNote(5, "x"), beginNote(0, "x")}, at: 4, got: 4, size: 4},
		"forged bytes with their sum":       {data: "XXXX", lines: []string{note(2, 0, 4, crc("XXXX"))}, at: 4, got: 4, size: 4},
		"all forged":                        {data: "XXXXXXXXXX", lines: []string{note(2, 0, 10, crc("XXXXXXXXXX"))}},
	} {
		d := lies(t, c.data, "", "", c.lines...)
		goesOn(t, what, begun(t, d), c.file, c.at, c.got)
		is(t, what+": bytes of the file", len(bytesOf(t, d, dir+"/0_0_0.data")), c.size)
	}
}

// Rows behind the current one may have safe bytes too, or be whole.
func TestRowsBehindTheCurrentOne(t *testing.T) {
	d := lies(t, "abcd", "", "xyz", note(2, 0, 4, crc("abcd")), note(3, 2, 0, 0))
	j := begun(t, d)
	goesOn(t, "a whole row behind", j, 0, 4, 7)
	gives(t, j, "efgh")
	done(t, j.Tick(1))
	gives(t, j, "ij")
	stateIs(t, "at the end", j, 5, api.FetchDone, 3, 0, 13, api.OK)

	j = begun(t, lies(t, "", "", "xy", note(2, 2, 2, crc("xy"))))
	goesOn(t, "safe bytes behind", j, 0, 0, 2)
	gives(t, j, "abcd")
	gives(t, j, "efgh")
	done(t, j.Tick(1))
	gives(t, j, "ij")
	goesOn(t, "there", j, 2, 2, 12)
	askIs(t, j, "meta", 2, 1)
	putIs(t, j, "z", api.OK)
	stateIs(t, "at the end", j, 5, api.FetchDone, 3, 0, 13, api.OK)
}

// The CRC runs on behind bytes that were safe already.
func TestSumsRunOn(t *testing.T) {
	d := four(t)
	j := begun(t, d)
	gives(t, j, "efgh")
	want := beginNote(5, manifest(t, 5, ours())) + note(2, 0, 4, crc("abcd")) + note(2, 0, 8, crc("abcdefgh"))
	is(t, "the journal", bytesOf(t, d, dir+"/journal"), want)
}

// The acts.

func cut(name string, size int) step { return step{do: "truncate", path: dir + "/" + name, size: size} }
func sync(name string) step          { return step{do: "sync", path: dir + "/" + name} }

// secured are the acts that come first of all.
func secured() []step {
	return []step{sync("journal"), sync("manifest"), {do: "syncdir", path: dir}, {do: "syncdir", path: "store"}}
}

// takingUp is a Begin in a directory that lies there.
func takingUp(t *testing.T, ready func() *disk.Disk) func() (*disk.Disk, func() api.Errno) {
	return func() (*disk.Disk, func() api.Errno) {
		d := ready()
		return d, func() api.Errno {
			j, e := Begin(d, dir, manifest(t, 5, ours()), limits())
			is(t, "a job", j != nil, e == api.OK)
			return e
		}
	}
}

func TestActsOfTakingUp(t *testing.T) {
	all := "abcdefghij"
	block := func(upto int) string { return note(2, 0, upto, crc(all[:upto])) }
	for what, c := range map[string]struct {
		data, index, meta string
		lines             []string
		want              [][]step
	}{
		"nothing safe": {want: [][]step{secured(), {sync("0_0_0.data"), sync("0_0_0.index"), sync("meta")}}},
		"a block":      {data: "abcd", lines: []string{block(4)}, want: [][]step{secured(), {sync("0_0_0.data"), sync("0_0_0.index"), sync("meta")}}},
		"all longer": {data: "abcdefgh", index: "x", meta: "xyz", lines: []string{block(4), "litter"},
			want: [][]step{{cut("journal", len(beginNote(5, manifest(t, 5, ours())))+len(block(4)))}, secured(), {cut("0_0_0.data", 4), sync("0_0_0.data"), cut("0_0_0.index", 0), sync("0_0_0.index"), cut("meta", 0), sync("meta")}}},
		"whole": {data: all, lines: []string{block(10), note(3, 0, 0, 0), note(3, 1, 0, 0)},
			want: [][]step{secured(), {sync("0_0_0.data"), sync("0_0_0.index"), sync("meta")}}},
		"an empty row that is said to be whole and is longer": {data: all, index: "xx", lines: []string{block(10), note(3, 0, 0, 0), note(3, 1, 0, 0)},
			want: [][]step{secured(), {sync("0_0_0.data"), cut("0_0_0.index", 0), sync("0_0_0.index"), sync("meta")}}},
		"closed": {data: all + "x", lines: []string{block(10)},
			want: [][]step{secured(), {cut("0_0_0.data", 10), sync("0_0_0.data")}, noted(note(3, 0, 0, 0)), {sync("0_0_0.index"), sync("meta")}}},
		"closed, forged": {data: "abcdXfghij", lines: []string{note(2, 0, 10, crc("abcdXfghij"))},
			want: [][]step{secured(), {sync("0_0_0.data")}, emptied("0_0_0.data", 0), {sync("0_0_0.index"), sync("meta")}}},
		"all whole": {data: all, meta: "xyz", lines: []string{block(10), note(3, 0, 0, 0), note(2, 2, 3, crc("xyz")), note(3, 2, 0, 0)},
			want: [][]step{secured(), {sync("0_0_0.data"), sync("0_0_0.index"), sync("meta")}, ended()}},
		"the last one closed": {data: all, meta: "xyz", lines: []string{block(10), note(3, 0, 0, 0), note(2, 2, 3, crc("xyz"))},
			want: [][]step{secured(), {sync("0_0_0.data"), sync("0_0_0.index"), sync("meta")}, noted(note(3, 2, 0, 0)), ended()}},
		"two closed": {data: all, meta: "xyz", lines: []string{block(10), note(2, 2, 3, crc("xyz"))},
			want: [][]step{secured(), {sync("0_0_0.data")}, noted(note(3, 0, 0, 0)), {sync("0_0_0.index"), sync("meta")}, noted(note(3, 2, 0, 0)), ended()}},
		"the first one closed, the last one whole": {data: all, meta: "xyz", lines: []string{block(10), note(3, 2, 0, 0)},
			want: [][]step{secured(), {sync("0_0_0.data")}, noted(note(3, 0, 0, 0)), {sync("0_0_0.index"), sync("meta")}, ended()}},
		"the last one closed, forged": {data: all, meta: "xyy", lines: []string{block(10), note(3, 0, 0, 0), note(2, 2, 3, crc("xyy"))},
			want: [][]step{secured(), {sync("0_0_0.data"), sync("0_0_0.index"), sync("meta")}, emptied("meta", 2)}},
		"whole, and said so": {data: all, meta: "xyz", lines: []string{note(3, 0, 0, 0), note(3, 1, 0, 0), note(3, 2, 0, 0), note(4, 0, 0, 0)},
			want: [][]step{secured(), {sync("0_0_0.data"), sync("0_0_0.index"), sync("meta")}, ended()}},
	} {
		ready := func() *disk.Disk { return lies(t, c.data, c.index, c.meta, c.lines...) }
		actsAre(t, what, takingUp(t, ready), api.OK, c.want...)
		loose := func() *disk.Disk { // as somebody else might have left it: nothing of it is safe
			d := ready()
			for _, x := range d.Dump() {
				if x.Kind == api.IsFile {
					done(t, d.Remove(x.Path))
					put(t, d, x.Path, x.Data)
				}
			}
			return d
		}
		actsAre(t, what+", loose", takingUp(t, loose), api.OK, c.want...)
	}
}

func TestActsWithoutAJournal(t *testing.T) {
	ready := func() *disk.Disk {
		d := lies(t, "abcdefghij", "", "xyz")
		done(t, d.Remove(dir+"/journal"))
		return d
	}
	actsAre(t, "all whole", takingUp(t, ready), api.OK, secured()[1:], []step{sync("0_0_0.data"), sync("0_0_0.index"), sync("meta")})
	d := ready()
	j := begun(t, d)
	stateIs(t, "all whole", j, 5, api.FetchDone, 3, 0, 13, api.OK)
	askFails(t, j, api.ErrOver)
	isWhole(t, "all whole", d, dir, manifest(t, 5, ours()), ours())
	for what, spoil := range map[string]func(d *disk.Disk){
		"short": func(d *disk.Disk) { done(t, d.Truncate(dir+"/meta", 2)) },
		"long":  func(d *disk.Disk) { done(t, d.Append(dir+"/0_0_0.index", "x")) },
		"other": func(d *disk.Disk) { rewrite(t, d, dir+"/0_0_0.data", "abcdefghiJ") },
	} {
		d := ready()
		spoil(d)
		goesOn(t, what, begun(t, d), 0, 0, 0)
	}
	d = stored(t)
	text := manifest(t, 5, nil)
	put(t, d, dir+"/manifest", text)
	stateIs(t, "no rows", begins(t, d, dir, text, limits()), 5, api.FetchDone, 0, 0, 0, api.OK)
	isWhole(t, "no rows", d, dir, text, nil)
}

// By whole is meant all three: the size, the CRC and the MD5. A file of the right CRC and another MD5 is laid there.
func TestWholeByAllSums(t *testing.T) {
	for what, r := range map[string]api.FileRow{
		"another MD5": {Name: "a", Size: 3, Crc: crc("xyz"), Md5: md("xyy")}, "another CRC": {Name: "a", Size: 3, Crc: crc("xyy"), Md5: md("xyz")},
	} {
		text := manifestOf(t, 5, []api.FileRow{r})
		d := stored(t)
		put(t, d, dir+"/manifest", text)
		put(t, d, dir+"/a", "xyz")
		goesOn(t, what+", no journal", begins(t, d, dir, text, limits()), 0, 0, 0)
		for _, lines := range []string{note(3, 0, 0, 0), note(2, 0, 3, crc("xyz")), note(2, 0, 3, crc("xyz")) + note(3, 0, 0, 0)} {
			rewrite(t, d, dir+"/a", "xyz")
			rewrite(t, d, dir+"/journal", beginNote(5, text)+lines)
			goesOn(t, what, begins(t, d, dir, text, limits()), 0, 0, 0)
			is(t, what, bytesOf(t, d, dir+"/a"), "")
		}
	}
}

// A disk with no room left: the note that closes a file is refused, and Begin answers that.
func TestTakenUpWithoutRoom(t *testing.T) {
	text := manifest(t, 5, files("a=xyz", "b=1"))
	journal := beginNote(5, text) + note(2, 0, 3, crc("xyz"))
	room := len(note(3, 0, 0, 0))
	for lacking, want := range map[int]api.Errno{0: api.OK, 1: api.ErrFull, room: api.ErrFull} {
		d := fresh(t, len(text)+len(journal)+3+room-lacking)
		put(t, d, "fetch/manifest", text)
		put(t, d, "fetch/a", "xyz")
		put(t, d, "fetch/b", "")
		put(t, d, "fetch/journal", journal)
		before := d.Acts()
		j, e := Begin(d, "fetch", text, limits())
		is(t, "Begin", e, want)
		if want == api.OK {
			goesOn(t, "closed", j, 1, 0, 3)
			is(t, "acts", d.Acts()-before, 8)
		} else {
			is(t, "a job", j, nil)
			is(t, "acts", d.Acts()-before, 5)
		}
	}
}

// A file's forged bytes that Begin finds are no failure: all tries are left.
func TestForgedAtBeginIsNoFailure(t *testing.T) {
	d := lies(t, "XXXXXXXXXX", "", "", note(2, 0, 10, crc("XXXXXXXXXX")))
	j := begun(t, d)
	goesOn(t, "begun anew", j, 0, 0, 0)
	askIs(t, j, "0_0_0.data", 0, 4)
	is(t, "Miss", j.Miss(), api.OK)
	goesOn(t, "one of two tries", j, 0, 0, 0)
	done(t, j.Tick(1))
	feed(t, j, ours())
	stateIs(t, "at the end", j, 5, api.FetchDone, 3, 0, 13, api.OK)
}

// A job that was taken up begins with a full bucket, at the time 0, with all tries.
func TestTakenUpIsFresh(t *testing.T) {
	d := four(t)
	j := begun(t, d)
	gives(t, j, "efgh")
	askIs(t, j, "0_0_0.data", 8, 2)
	is(t, "Miss", j.Miss(), api.OK)
	askFails(t, j, api.ErrWait)
	j = begun(t, d)
	askIs(t, j, "0_0_0.data", 8, 2)
	putIs(t, j, "ij", api.OK)
	gives(t, j, "xyz")
}
