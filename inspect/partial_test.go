package inspect

import (
	"slices"
	"strconv"
	"strings"
	"testing"

	"granary/api"
	"granary/disk"
	"granary/fetch"
	"granary/paper"
)

// P22.3

func sevenManifest(t *testing.T) (api.Manifest, string) {
	t.Helper()
	text := manifestIn(filesOf(t, east(), 1, 7, data(7)))
	m, e := paper.ParseManifest(text)
	done(t, e)
	return m, text
}

func totalOf(t *testing.T, text string) int {
	t.Helper()
	m, e := paper.ParseManifest(text)
	done(t, e)
	return m.Total
}

// hexSum is a sum as papers write it.
func hexSum(sum int) string {
	digits := strconv.FormatInt(int64(sum), 16)
	return strings.Repeat("0", 8-len(digits)) + digits
}

// sealed is a paper with the line of its sum.
func sealed(body string) string { return body + "sum " + hexSum(crc(body)) + "\n" }

// note is a line of a journal.
func note(kind, file, upto, sum int) string {
	line := strconv.Itoa(kind) + " " + strconv.Itoa(file) + " " + strconv.Itoa(upto) + " " + hexSum(sum) + " "
	return line + hexSum(crc(line)) + "\n"
}

// piece is a partial directory that is laid by hand: what its manifest says, and what lies there. It is E's, of node 1 and version 7, in the directory fetch-7.
type piece struct {
	store         string
	version, node int
	rows          []api.FileRow
	print         func(text string) string  // what becomes of the manifest's text
	journal       func(first string) string // the journal, from the begin note; nil: there is none
	files         map[string]string         // of the rows, and others; with a '/' at the name's end a directory
	manifest      string                    // its name
}

// row is a row that these bytes fit.
func row(name, data string) api.FileRow {
	return api.FileRow{Name: name, Size: len(data), Crc: crc(data), Md5: md(data)}
}

// begun is a piece of chapter 11's three rows, of which nothing has come.
func begun() piece {
	return piece{
		store: "east", version: 7, node: 1,
		rows:     []api.FileRow{row("0_0_0.data", "abcdefghij"), row("0_0_0.index", ""), row("meta", "xyz")},
		print:    func(text string) string { return text },
		journal:  func(first string) string { return first },
		files:    map[string]string{"0_0_0.data": "", "0_0_0.index": "", "meta": ""},
		manifest: "manifest",
	}
}

func (p piece) text(t *testing.T) string {
	t.Helper()
	slices.SortFunc(p.rows, func(a, b api.FileRow) int { return strings.Compare(a.Name, b.Name) })
	m := api.Manifest{Store: p.store, Version: p.version, Node: p.node, Files: p.rows}
	for _, r := range p.rows {
		m.Total += r.Size
		whole, e := joined(m.Whole, r)
		done(t, e)
		m.Whole = whole
	}
	text, e := paper.PrintManifest(m)
	done(t, e)
	return p.print(text)
}

// lay lays it into a new disk.
func (p piece) lay(t *testing.T) *disk.Disk {
	t.Helper()
	d, text := fresh(t), p.text(t)
	put(t, d, "store/fetch-7/", "")
	if p.manifest != "" {
		put(t, d, "store/fetch-7/"+p.manifest, text)
	}
	if p.journal != nil {
		put(t, d, "store/fetch-7/journal", p.journal(note(1, p.version, 0, crc(text))))
	}
	for name, data := range p.files {
		if p.manifest != name {
			put(t, d, "store/fetch-7/"+name, data)
		}
	}
	return d
}

// is holds what is found of it.
func (p piece) is(t *testing.T, what string, code api.Errno, count int) {
	t.Helper()
	p.under(t, what, east(), code, count)
}

func (p piece) under(t *testing.T, what string, c api.Cluster, code api.Errno, count int) {
	t.Helper()
	storeIs(t, what, p.lay(t), c, 1, f("store/fetch-7", isPartial, code, 7, count))
}

// with is a piece to which something is done.
func (p piece) with(change func(p *piece)) piece {
	files := map[string]string{}
	for name, data := range p.files {
		files[name] = data
	}
	p.files, p.rows = files, append([]api.FileRow{}, p.rows...)
	change(&p)
	return p
}

// fault is something that is wrong with a piece, and what is told of it.
type fault struct {
	name string
	want api.Errno
	do   func(p *piece)
}

// faults are in the order in which they are told. Those of one number exclude each other.
func faults() [][]fault {
	print := func(name string, want api.Errno, change func(text string) string) fault {
		return fault{name, want, func(p *piece) { p.print = change }}
	}
	journal := func(name string, change func(first string) string) fault {
		return fault{name, api.ErrForm, func(p *piece) { p.journal = change }}
	}
	return [][]fault{
		{
			{"no manifest", api.ErrMissing, func(p *piece) { p.manifest = "" }},
			{"a directory for a manifest", api.ErrMissing, func(p *piece) { p.manifest = "manifest/" }},
		},
		{
			print("no text", api.ErrForm, func(text string) string { return "" }),
			print("a line more", api.ErrForm, func(text string) string { return text + "\n" }),
			print("cut", api.ErrForm, func(text string) string { return text[:len(text)-1] }),
			print("a pointer", api.ErrForm, func(text string) string { return sealed("granary latest 1\ncur 0\nprev 0\nepoch 0\nseq 0\n") }),
			print("turned", api.ErrSum, func(text string) string { return turned(text, versionAt(text)) }),
			print("version 0", api.ErrField, func(text string) string { return resealed(text[:versionAt(text)] + "0" + text[versionAt(text)+1:]) }),
			print("no totals", api.ErrTotal, func(text string) string { return resealed(strings.Replace(text, "\ntotal ", "\ntotal 1", 1)) }),
		},
		{
			{"another store", api.ErrOther, func(p *piece) { p.store = "west" }},
			{"a store whose name begins so", api.ErrOther, func(p *piece) { p.store = "easter" }},
			{"another version", api.ErrOther, func(p *piece) { p.version = 8 }},
			{"another node", api.ErrOther, func(p *piece) { p.node = 0 }},
		},
		{
			{"a row called journal", api.ErrFile, func(p *piece) { p.rows = []api.FileRow{row("journal", "x"), row("meta", "xyz")} }},
			{"a row called manifest", api.ErrFile, func(p *piece) { p.rows = []api.FileRow{row("manifest", "x"), row("meta", "xyz")} }},
		},
		{
			{"beyond the quota", api.ErrQuota, func(p *piece) {
				p.rows = append(p.rows, api.FileRow{Name: "zzz", Size: 100001, Md5: md("")})
			}},
			{"far beyond the quota", api.ErrQuota, func(p *piece) {
				p.rows = append(p.rows, api.FileRow{Name: "zzz", Size: 1 << 30, Md5: md("")}, api.FileRow{Name: "zzzz", Size: 1 << 30, Md5: md("")})
			}},
		},
		{
			{"an empty row with a CRC", api.ErrWhole, func(p *piece) { p.rows = append(p.rows, api.FileRow{Name: "zzzzz", Crc: 1, Md5: md("")}) }},
			{"an empty row with another MD5", api.ErrWhole, func(p *piece) { p.rows = append(p.rows, api.FileRow{Name: "zzzzz", Md5: md("x")}) }},
		},
		{
			{"a file beside", api.ErrExtra, func(p *piece) { p.files["x"] = "" }},
			{"a directory beside", api.ErrExtra, func(p *piece) { p.files["x/"] = "" }},
			{"a row of another name", api.ErrExtra, func(p *piece) { delete(p.files, "meta"); p.files["metb"] = "xyz" }},
			{"a row away", api.ErrExtra, func(p *piece) { delete(p.files, "meta") }},
			{"a directory for a row", api.ErrExtra, func(p *piece) { delete(p.files, "meta"); p.files["meta/"] = "" }},
		},
		{
			journal("an empty journal", func(first string) string { return "" }),
			journal("an empty line", func(first string) string { return "\n" + first }),
			journal("a cut note", func(first string) string { return first[:len(first)-1] }),
			journal("another version's", func(first string) string { return note(1, 6, 0, 1) + first }),
			journal("another note first", func(first string) string { return note(2, 0, 0, 0) + first }),
			{"no journal", api.ErrDamage, func(p *piece) { p.journal = nil }},
		},
	}
}

// versionAt is where the number stands in a manifest's line of the version.
func versionAt(text string) int { return strings.Index(text, "\nversion ") + len("\nversion ") }

// resealed is a paper with the sum that fits its lines.
func resealed(text string) string { return sealed(text[:strings.LastIndex(text, "sum ")]) }

func TestCodes(t *testing.T) {
	begun().is(t, "no fault", api.OK, 0)
	for _, kind := range faults() {
		for _, x := range kind {
			begun().with(x.do).is(t, x.name, x.want, 0)
		}
	}
}

// Where two apply at once the first is told.
func TestTwoCodes(t *testing.T) {
	all := faults()
	for i, kind := range all {
		for _, x := range kind {
			for _, later := range all[i+1:] {
				for _, y := range later {
					begun().with(x.do).with(y.do).is(t, x.name+", "+y.name, x.want, 0)
					if x.name != "a row called manifest" && x.name != "a row called journal" && x.name != "no manifest" { // with these no other fault lies where it lay
						begun().with(y.do).with(x.do).is(t, y.name+", "+x.name, x.want, 0)
					}
				}
			}
		}
	}
	// All at once, from each on.
	for i := range all {
		p := begun()
		for _, kind := range all[i:] {
			p = p.with(kind[0].do)
		}
		p.is(t, "all from here on", all[i][0].want, 0)
	}
}

func TestTheQuota(t *testing.T) {
	for quota, want := range map[int]api.Errno{1: api.ErrQuota, 12: api.ErrQuota, 13: api.OK, 14: api.OK, api.MaxDisk: api.OK} {
		c := east()
		c.Quota = quota
		begun().under(t, "Quota "+strconv.Itoa(quota), c, want, 0)
	}
}

// Each text that differs in one byte, and each shorter one, is no manifest: the error is what paper answers.
func TestSpoiltManifests(t *testing.T) {
	good := begun().text(t)
	seen := map[api.Errno]int{}
	for i := range good {
		for _, text := range []string{turned(good, i), good[:i]} {
			_, want := paper.ParseManifest(text)
			begun().with(func(p *piece) { p.print = func(string) string { return text } }).is(t, strconv.Quote(text), want, 0)
			seen[want]++
		}
	}
	is(t, "none is read", seen[api.OK], 0)
	is(t, "some have another sum", seen[api.ErrSum] > 20, true)
	is(t, "some have another form", seen[api.ErrForm] > 20, true)
}

func TestJournals(t *testing.T) {
	text := begun().text(t)
	first := note(1, 7, 0, crc(text))
	four := note(2, 0, 4, crc("abcd"))
	for i := range len(first) {
		for _, lines := range []string{first[:i], first[:i] + four, turned(first, i) + four} {
			begun().with(func(p *piece) {
				p.journal = func(string) string { return lines }
				p.files["0_0_0.data"] = "abcd"
			}).is(t, strconv.Quote(lines), api.ErrForm, 0)
		}
	}
	for what, lines := range map[string]string{
		"another version's":         note(1, 6, 0, crc(text)) + four,
		"another manifest's":        note(1, 7, 0, crc(text)^1) + four,
		"a first note with an Upto": note(1, 7, 1, crc(text)) + four,
		"another kind":              note(2, 7, 0, crc(text)) + four,
		"a note ahead":              four + first,
		"litter ahead":              "x" + first + four,
	} {
		begun().with(func(p *piece) {
			p.journal = func(string) string { return lines }
			p.files["0_0_0.data"] = "abcd"
		}).is(t, what, api.ErrForm, 0)
	}
	// What stands behind the good beginning does not count.
	eight := note(2, 0, 8, crc("abcdefgh"))
	for i := range len(eight) {
		for _, more := range []string{eight[:i], turned(eight, i), "\n" + eight, "x"} {
			begun().with(func(p *piece) {
				p.journal = func(first string) string { return first + four + more + eight }
				p.files["0_0_0.data"] = "abcdefgh"
			}).is(t, strconv.Quote(more), api.OK, map[bool]int{false: 4, true: 8}[more == ""])
		}
	}
}

// What the journal says of the rows, and what their bytes bear out.
func TestCounts(t *testing.T) {
	all := "abcdefghij"
	block := func(upto int) string { return note(2, 0, upto, crc(all[:upto])) }
	whole := note(3, 0, 0, 0)
	for what, c := range map[string]struct {
		data  string
		lines []string
		want  int
	}{
		"nothing":                           {"", nil, 0},
		"no note":                           {"abcd", nil, 0},
		"one":                               {"abcd", []string{block(4)}, 4},
		"the last one counts":               {"abcdefgh", []string{block(2), block(4), block(8)}, 8},
		"a smaller one behind":              {"abcdefgh", []string{block(8), block(4)}, 4},
		"begun anew":                        {"abcdefgh", []string{block(8), note(2, 0, 0, 0)}, 0},
		"nothing, with a sum":               {"abcd", []string{block(4), note(2, 0, 0, 7)}, 0},
		"a longer file":                     {"abcdefgh", []string{block(4)}, 4},
		"a file beyond its size":            {all + all, []string{block(9)}, 9},
		"a shorter file":                    {"abcdefg", []string{block(4), block(8)}, 0},
		"another sum":                       {"abcdefgh", []string{block(4), note(2, 0, 8, 1)}, 0},
		"other bytes":                       {"abXd", []string{block(4)}, 0},
		"other bytes behind":                {"abcdXXXX", []string{block(4)}, 4},
		"one byte":                          {"a", []string{block(1)}, 1},
		"all but one byte":                  {all, []string{block(9)}, 9},
		"all bytes, not yet noted as whole": {all, []string{block(10)}, 10},
		"all bytes, and more":               {all + "x", []string{block(10)}, 10},
		"an Upto above the Size":            {all + "x", []string{block(4), note(2, 0, 11, crc(all+"x"))}, 4},
		"the greatest Upto":                 {"abcd", []string{block(4), note(2, 0, most, 0)}, 4},
		"a row that is not there":           {"abcd", []string{block(4), note(2, 3, 0, 0), note(3, 3, 0, 0), note(2, most, 0, 0), note(3, most, 0, 0)}, 4},
		"whole":                             {all, []string{block(10), whole}, 10},
		"whole without a block":             {all, []string{whole}, 10},
		"whole behind another block":        {all, []string{block(4), whole}, 10},
		"whole with other numbers":          {all, []string{note(3, 0, 77, 78)}, 10},
		"whole, then a block":               {all, []string{whole, block(4)}, 4},
		"whole, then all blocks":            {all, []string{whole, block(10)}, 10},
		"whole, then a block that is none":  {all, []string{whole, note(2, 0, 11, 0)}, 10},
		"whole, then anew":                  {all, []string{whole, note(2, 0, 0, 0)}, 0},
		"whole, then anew, then whole":      {all, []string{whole, note(2, 0, 0, 0), whole}, 10},
		"whole, and it is not":              {"abcdefghiX", []string{block(4), whole}, 4},
		"whole, and it is short":            {"abcdefghi", []string{block(4), whole}, 4},
		"whole, and it is long":             {all + "x", []string{block(4), whole}, 4},
		"whole, long, all its bytes noted":  {all + "x", []string{block(10), whole}, 10},
		"whole, and nothing of it is right": {"XXXXXXXXXX", []string{block(10), whole}, 0},
		"whole, without a block, it is not": {"abcdefghiX", []string{whole}, 0},
		"whole whole":                       {"abcd", []string{block(4), note(4, 0, 0, 0)}, 4},
		"begun twice":                       {"abcd", []string{block(4), note(1, 7, 0, 0), note(1, 0, 0, 0)}, 4},
		"forged bytes with their sum":       {"XXXX", []string{note(2, 0, 4, crc("XXXX"))}, 4},
		"all forged":                        {"XXXXXXXXXX", []string{note(2, 0, 10, crc("XXXXXXXXXX"))}, 0},
		"all forged, and more":              {"XXXXXXXXXXabc", []string{note(2, 0, 10, crc("XXXXXXXXXX"))}, 0},
	} {
		begun().with(func(p *piece) {
			p.files["0_0_0.data"] = c.data
			p.journal = func(first string) string { return first + strings.Join(c.lines, "") }
		}).is(t, what, api.OK, c.want)
	}
}

// The rows together; an empty row's file is whole, or becomes so.
func TestCountsOfRows(t *testing.T) {
	all := "abcdefghij"
	block, meta, index := note(2, 0, 10, crc(all)), note(2, 2, 3, crc("xyz")), note(3, 1, 0, 0)
	for what, c := range map[string]struct {
		data, index, meta string
		lines             string
		want              int
	}{
		"one":                            {all, "", "", block, 10},
		"the last":                       {"", "", "xyz", meta, 3},
		"a part of the last":             {"", "", "xyz", note(2, 2, 2, crc("xy")), 2},
		"two, to be closed":              {all, "", "xyz", block + meta, 13},
		"two, whole":                     {all, "", "xyz", note(3, 0, 0, 0) + note(3, 2, 0, 0) + index, 13},
		"two, and all":                   {all, "", "xyz", block + note(3, 0, 0, 0) + index + meta + note(3, 2, 0, 0) + note(4, 0, 0, 0), 13},
		"two, one of them forged":        {"abcdefghiX", "", "xyz", note(2, 0, 10, crc("abcdefghiX")) + meta, 3},
		"a part, and forged":             {"abcd", "", "xyy", note(2, 0, 4, crc("abcd")) + note(2, 2, 3, crc("xyy")), 4},
		"parts of both":                  {"abcd", "", "x", note(2, 0, 4, crc("abcd")) + note(2, 2, 1, crc("x")), 5},
		"an empty row with bytes":        {"abcd", "litter", "", note(2, 0, 4, crc("abcd")), 4},
		"an empty row, whole, and bytes": {"abcd", "litter", "", note(2, 0, 4, crc("abcd")) + index, 4},
		"notes of an empty row":          {"abcd", "x", "", note(2, 1, 1, crc("x")) + note(2, 0, 4, crc("abcd")) + note(2, 1, 0, 0), 4},
	} {
		begun().with(func(p *piece) {
			p.files["0_0_0.data"], p.files["0_0_0.index"], p.files["meta"] = c.data, c.index, c.meta
			p.journal = func(first string) string { return first + c.lines }
		}).is(t, what, api.OK, c.want)
	}
	none := begun().with(func(p *piece) { p.rows, p.files = nil, nil })
	none.is(t, "no rows", api.OK, 0)
	none.with(func(p *piece) { p.journal = nil }).is(t, "no rows, and no journal", api.OK, 0)
	great := strings.Repeat("0123456789abcdef", 20000) // more than is read at a time
	for _, upto := range []int{1, 65535, 65536, 65537, 131072, 319999, 320000} {
		begun().with(func(p *piece) {
			p.rows = []api.FileRow{row("a", great)}
			p.files = map[string]string{"a": great}
			p.journal = func(first string) string { return first + note(2, 0, upto, crc(great[:upto])) }
		}).under(t, "a great file", spacious(), api.OK, upto)
	}
}

// spacious is E with a great quota.
func spacious() api.Cluster {
	c := east()
	c.Quota = api.MaxDisk
	return c
}

// Without a journal each row must be whole by its bytes.
func TestWithoutAJournal(t *testing.T) {
	whole := begun().with(func(p *piece) {
		p.files["0_0_0.data"], p.files["meta"] = "abcdefghij", "xyz"
		p.journal = nil
	})
	whole.is(t, "all whole", api.OK, 13)
	for name, datas := range map[string][]string{
		"0_0_0.data":  {"", "abcdefghi", "abcdefghijk", "abcdefghiX", "Xbcdefghij"},
		"0_0_0.index": {"x", "abcdefghij"},
		"meta":        {"", "xy", "xyzz", "xyy"},
	} {
		for _, data := range datas {
			whole.with(func(p *piece) { p.files[name] = data }).is(t, name+" "+data, api.ErrDamage, 0)
		}
	}
	whole.with(func(p *piece) { delete(p.files, "meta") }).is(t, "one away", api.ErrExtra, 0)
	whole.with(func(p *piece) { p.files["journal/"] = "" }).is(t, "a directory for a journal", api.ErrExtra, 0)
	// Same CRC and size, another MD5; same MD5, another CRC: a row that nothing fits.
	whole.with(func(p *piece) { p.rows[2].Md5 = md("xyy") }).is(t, "another MD5", api.ErrDamage, 0)
	whole.with(func(p *piece) { p.rows[2].Crc ^= 1 }).is(t, "another CRC", api.ErrDamage, 0)
	for _, change := range []func(p *piece){func(p *piece) { p.rows[2].Md5 = md("xyy") }, func(p *piece) { p.rows[2].Crc ^= 1 }} {
		p := whole.with(change)
		p.journal = func(first string) string { return first + note(2, 2, 3, crc("xyz")) + note(3, 0, 0, 0) }
		p.is(t, "closed, and it does not fit", api.OK, 10)
	}
}

// What is fetched block by block: at each place Count is what the job says it has.
func TestFetchedBlockByBlock(t *testing.T) {
	files := filesOf(t, east(), 1, 7, data(7))
	text := manifestIn(files)
	for _, block := range []int{7, 64, 4096} {
		d := laid(t, "store/")
		j, e := fetch.Begin(d, "store/fetch-7", text, limitsOf(east(), block))
		done(t, e)
		for got := -1; j.State().Got > got; {
			got = j.State().Got
			eastIs(t, "fetched", d, f("store/fetch-7", isPartial, 0, 7, got))
			done(t, feeds(t, j, files, 1))
		}
		is(t, "Phase", j.State().Phase, api.FetchDone)
		is(t, "Got", j.State().Got, totalOf(t, text))
		is(t, "the journal", has(d, "store/fetch-7/journal"), false)
	}
}

// Of whom the directory is, is read in the manifest and asked of its name.
func TestWhoseItIs(t *testing.T) {
	for name, want := range map[string]api.Finding{
		"fetch-7":      f("store/fetch-7", isPartial, 0, 7, 4),
		"fetch-8":      f("store/fetch-8", isPartial, api.ErrOther, 8, 0),
		"fetch-999999": f("store/fetch-999999", isPartial, api.ErrOther, last, 0),
		"fetch-07":     isNobodys("store/fetch-07"),
		"version-7":    f("store/version-7", isBroken, api.ErrMissing, 7, 0),
		"trash-7":      f("store/trash-7", isLeft, 0, 7, 0),
	} {
		p := begun().with(func(p *piece) {
			p.files["0_0_0.data"] = "abcd"
			p.journal = func(first string) string { return first + note(2, 0, 4, crc("abcd")) }
		})
		d := p.lay(t)
		if name != "fetch-7" {
			done(t, d.Rename("store/fetch-7", "store/"+name))
		}
		eastIs(t, name, d, want)
	}
	for node, want := range []api.Errno{api.ErrOther, api.OK, api.ErrOther} {
		count := 0
		if want == api.OK {
			count = 13
		}
		p := begun().with(func(p *piece) {
			p.files["0_0_0.data"], p.files["meta"] = "abcdefghij", "xyz"
			p.journal = nil
		})
		storeIs(t, "node "+strconv.Itoa(node), p.lay(t), east(), node, f("store/fetch-7", isPartial, want, 7, count))
	}
	// Several, each by itself.
	d := begun().lay(t)
	put(t, d, "store/fetch-6/manifest", begun().with(func(p *piece) { p.version = 6; p.rows = nil }).text(t))
	put(t, d, "store/fetch-1000000/", "")
	put(t, d, "store/fetch-10/manifest/", "")
	eastIs(t, "several", d, f("store/fetch-10", isPartial, api.ErrMissing, 10, 0), isNobodys("store/fetch-1000000"), f("store/fetch-6", isPartial, 0, 6, 0), f("store/fetch-7", isPartial, 0, 7, 0))
}
