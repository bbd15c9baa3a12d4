package paper

import (
	"fmt"
	"hash/crc32"
	"regexp"
	"strconv"
	"strings"
	"testing"

	"granary/api"
)

// What the chapter says, once more and plainly: a form is a pattern, a range is a pattern or two ends.

const (
	numberForm = `(0|[1-9][0-9]{0,15})`
	sumForm    = `([0-9a-f]{8})`
	wordForm   = `([^ \n]+)`
	fileForm   = `file ` + wordForm + ` ` + numberForm + ` ` + sumForm + ` ([0-9a-f]{32})\n`
	endForm    = `sum ` + sumForm + `\n\z`
)

var (
	metaForm = regexp.MustCompile(`\Agranary meta 1\nstore ` + wordForm + `\nversion ` + numberForm + `\nnode ` + numberForm + `\nparts ` + numberForm +
		`\nreplicas ` + numberForm + `\nwidth ` + numberForm + `\nchunks ` + numberForm + `\nrows ` + numberForm + `\n` + endForm)
	pointerForm  = regexp.MustCompile(`\Agranary latest 1\ncur ` + numberForm + `\nprev ` + numberForm + `\nepoch ` + numberForm + `\nseq ` + numberForm + `\n` + endForm)
	manifestForm = regexp.MustCompile(`\Agranary manifest 1\nstore ` + wordForm + `\nversion ` + numberForm + `\nnode ` + numberForm + `\nfiles ` + numberForm +
		`\n((?:` + fileForm + `)*)total ` + numberForm + `\nwhole ` + sumForm + `\n` + endForm)
	fileLine = regexp.MustCompile(`\A` + fileForm + `\z`)
	noteForm = regexp.MustCompile(`\A` + numberForm + ` ` + numberForm + ` ` + numberForm + ` ` + sumForm + ` ` + sumForm + `\n`)
	storeOK  = regexp.MustCompile(`\A[a-z][a-z0-9-]{0,39}\z`)
	nameOK   = regexp.MustCompile(`\A[a-z0-9_.-]{1,40}\z`)
)

func dec(word string) int {
	n, err := strconv.Atoi(word)
	if err != nil {
		panic(err)
	}
	return n
}

func hex(word string) int {
	n, err := strconv.ParseUint(word, 16, 32)
	if err != nil {
		panic(err)
	}
	return int(n)
}

func within(n, low, high int) bool { return n >= low && n <= high }

// sumFits holds a paper's last line against what stands ahead of it.
func sumFits(text string) bool {
	body := text[:len(text)-13]
	return uint32(hex(text[len(text)-9:len(text)-1])) == crc32.ChecksumIEEE([]byte(body))
}

func modelMeta(text string) (api.Meta, api.Errno) {
	w := metaForm.FindStringSubmatch(text)
	if w == nil {
		return api.Meta{}, api.ErrForm
	}
	m := api.Meta{Store: w[1], Version: dec(w[2]), Node: dec(w[3]), Parts: dec(w[4]), Replicas: dec(w[5]), Width: dec(w[6]), Chunks: dec(w[7]), Rows: dec(w[8])}
	switch {
	case !sumFits(text):
		return api.Meta{}, api.ErrSum
	case !storeOK.MatchString(m.Store), !within(m.Version, 1, 999999), !within(m.Node, 0, 15), !within(m.Parts, 1, 64), !within(m.Replicas, 1, 16), !within(m.Width, 1, 16), !within(m.Chunks, 1, 16), !within(m.Rows, 0, 1<<53):
		return api.Meta{}, api.ErrField
	}
	return m, api.OK
}

func modelPointer(text string) (api.Pointer, api.Errno) {
	w := pointerForm.FindStringSubmatch(text)
	if w == nil {
		return api.Pointer{}, api.ErrForm
	}
	p := api.Pointer{Cur: dec(w[1]), Prev: dec(w[2]), Epoch: dec(w[3]), Seq: dec(w[4])}
	switch {
	case !sumFits(text):
		return api.Pointer{}, api.ErrSum
	case !within(p.Cur, 0, 999999), !within(p.Prev, 0, 999999), !within(p.Epoch, 0, 1<<53), !within(p.Seq, 0, 1<<53):
		return api.Pointer{}, api.ErrField
	}
	return p, api.OK
}

func modelManifest(text string) (api.Manifest, api.Errno) {
	w := manifestForm.FindStringSubmatch(text)
	if w == nil || strings.Count(w[5], "\n") != dec(w[4]) {
		return api.Manifest{}, api.ErrForm
	}
	m := api.Manifest{Store: w[1], Version: dec(w[2]), Node: dec(w[3]), Total: dec(w[10]), Whole: hex(w[11])}
	ok := storeOK.MatchString(m.Store) && within(m.Version, 1, 999999) && within(m.Node, 0, 15) && dec(w[4]) <= 1025 && m.Total <= 1<<53
	total, whole := 0, uint32(0)
	for _, line := range strings.SplitAfter(w[5], "\n") {
		if line == "" {
			continue
		}
		f := fileLine.FindStringSubmatch(line)
		var sum []byte
		if _, err := fmt.Sscanf(f[4], "%x", &sum); err != nil {
			panic(err)
		}
		r := api.FileRow{Name: f[1], Size: dec(f[2]), Crc: hex(f[3]), Md5: string(sum)}
		ok = ok && nameOK.MatchString(r.Name) && r.Name != "." && r.Name != ".." && r.Size <= 1<<30
		ok = ok && (len(m.Files) == 0 || m.Files[len(m.Files)-1].Name < r.Name)
		m.Files = append(m.Files, r)
		if ok {
			total += r.Size
			whole = modelJoin(whole, uint32(r.Crc), r.Size)
		}
	}
	switch {
	case !sumFits(text):
		return api.Manifest{}, api.ErrSum
	case !ok:
		return api.Manifest{}, api.ErrField
	case total != m.Total || int(whole) != m.Whole:
		return api.Manifest{}, api.ErrTotal
	}
	return m, api.OK
}

// modelJoin goes over the second text's bytes one by one, as if they were 0, of which the CRC is known: the rest follows, as sums are linear.
func modelJoin(first, second uint32, size int) uint32 {
	zeros := make([]byte, min(size, 1<<12))
	with, without := first, uint32(0)
	for size > 0 {
		n := min(size, len(zeros))
		with = crc32.Update(with, crc32.IEEETable, zeros[:n])
		without = crc32.Update(without, crc32.IEEETable, zeros[:n])
		size -= n
	}
	return with ^ without ^ second
}

func modelNotes(text string) ([]api.Note, int) {
	var notes []api.Note
	size := 0
	for {
		w := noteForm.FindStringSubmatch(text[size:])
		if w == nil {
			return notes, size
		}
		line := w[0]
		n := api.Note{Kind: dec(w[1]), File: dec(w[2]), Upto: dec(w[3]), Crc: hex(w[4])}
		if crc(line[:len(line)-9]) != hex(w[5]) || !within(n.Kind, 1, 4) || n.File > 1<<53 || n.Upto > 1<<53 {
			return notes, size
		}
		notes = append(notes, n)
		size += len(line)
	}
}

// Random papers that may be printed.

// number is mostly small, at times at an end of its range.
func (d *dice) number(low, high int) int {
	switch d.roll(4) {
	case 0:
		return low
	case 1:
		return high
	}
	return min(high, low+d.roll(20))
}

func (d *dice) sum() int { return d.roll(1<<16)<<16 | d.roll(1<<16) }

func (d *dice) of(letters string, n int) string {
	out := make([]byte, n)
	for i := range out {
		out[i] = letters[d.roll(len(letters))]
	}
	return string(out)
}

func (d *dice) store() string { return d.of("abz", 1) + d.of("az09-", d.number(0, 39)) }

func (d *dice) meta() api.Meta {
	return api.Meta{Store: d.store(), Version: d.number(1, 999999), Node: d.number(0, 15), Parts: d.number(1, 64), Replicas: d.number(1, 16), Width: d.number(1, 16), Chunks: d.number(1, 16), Rows: d.number(0, 1<<53)}
}

func (d *dice) pointer() api.Pointer {
	return api.Pointer{Cur: d.number(0, 999999), Prev: d.number(0, 999999), Epoch: d.number(0, 1<<53), Seq: d.number(0, 1<<53)}
}

func (d *dice) note() api.Note {
	return api.Note{Kind: d.number(1, 4), File: d.number(0, 1<<53), Upto: d.number(0, 1<<53), Crc: d.sum()}
}

func (d *dice) manifest() api.Manifest {
	m := api.Manifest{Store: d.store(), Version: d.number(1, 999999), Node: d.number(0, 15)}
	whole := uint32(0)
	for i := range d.roll(5) {
		r := api.FileRow{Name: d.of("abc"[i/2:i/2+1], i+1) + d.of("a0-_.", d.roll(3)), Size: d.roll(300), Crc: d.sum(), Md5: d.of("\x00\x7f\xff \n", 16)}
		if i > 0 && r.Name <= m.Files[len(m.Files)-1].Name {
			continue
		}
		m.Files = append(m.Files, r)
		m.Total += r.Size
		whole = modelJoin(whole, uint32(r.Crc), r.Size)
	}
	m.Whole = int(whole)
	return m
}

// hurt cuts a piece off or out of a text, puts one in, turns one, or moves a line.
func (d *dice) hurt(s string) string {
	const pieces = "0129afgA \n-."
	at := d.roll(len(s) + 1)
	upto := min(len(s), at+d.roll(3))
	switch d.roll(8) {
	case 0:
		return s[:at]
	case 1:
		return s[:at] + s[upto:]
	case 5, 6:
		return s[:at] + d.of("019", 1+d.roll(8)) + s[at:]
	case 2:
		return s[:at] + d.of(pieces, 1+d.roll(2)) + s[at:]
	case 3, 4:
		return s[:at] + d.of(pieces, upto-at) + s[upto:]
	}
	lines := strings.SplitAfter(s, "\n")
	i, j := d.roll(len(lines)), d.roll(len(lines))
	lines[i], lines[j] = lines[j], lines[i]
	return strings.Join(lines, "")
}

// hurtPaper hurts a paper and, at times, lets its sum fit again.
func (d *dice) hurtPaper(text string) string {
	if d.chance() {
		return d.hurt(text)
	}
	body := text[:len(text)-13]
	for range d.roll(3) {
		body = d.hurt(body)
	}
	return resealed(body)
}

func TestPapersAgainstTheModel(t *testing.T) {
	d := dice(4)
	told := map[string]int{}
	for range 20000 {
		text := d.hurtPaper(printed(t, d.meta(), PrintMeta))
		meta, errno := modelMeta(text)
		readsMeta(t, text, meta, errno)
		told[fmt.Sprint("meta ", errno)]++

		text = d.hurtPaper(printed(t, d.pointer(), PrintPointer))
		pointer, errno := modelPointer(text)
		readsPointer(t, text, pointer, errno)
		told[fmt.Sprint("pointer ", errno)]++

		text = d.hurtPaper(printed(t, d.manifest(), PrintManifest))
		manifest, errno := modelManifest(text)
		readsManifest(t, text, manifest, errno)
		told[fmt.Sprint("manifest ", errno)]++
		if t.Failed() {
			return
		}
	}
	for _, kind := range []string{"meta 0", "meta 40", "meta 41", "meta 42", "pointer 0", "pointer 40", "pointer 41", "pointer 42", "manifest 0", "manifest 40", "manifest 41", "manifest 42", "manifest 43"} {
		if told[kind] < 100 {
			t.Errorf("%s: %d times alone", kind, told[kind])
		}
	}
}

// P4.3: whatever is read is just what its meaning is printed as.
func TestWhatIsReadIsPrintedSo(t *testing.T) {
	d := dice(34)
	read := 0
	for range 20000 {
		for i, text := range []string{printed(t, d.meta(), PrintMeta), printed(t, d.manifest(), PrintManifest), printed(t, d.pointer(), PrintPointer)} {
			text = d.hurtPaper(text)
			if again, e := sorts()[i].again(t, text); e == api.OK {
				is(t, "printed again", again, text)
				read++
			}
		}
	}
	if read < 1000 {
		t.Errorf("%d texts were read", read)
	}
}

func TestJournalsAgainstTheModel(t *testing.T) {
	d := dice(5)
	for range 20000 {
		journal := ""
		for range d.roll(5) {
			line := printed(t, d.note(), PrintNote)
			if d.roll(4) == 0 {
				body := d.hurt(line[:len(line)-9])
				line = body + fmt.Sprintf("%08x\n", crc(body))
			}
			journal += line
		}
		if d.chance() {
			journal = d.hurt(journal)
		}
		notes, size := modelNotes(journal)
		readsNotes(t, journal, notes, size)
		again := ""
		for _, n := range notes {
			again += printed(t, n, PrintNote)
		}
		is(t, "the good beginning", journal[:size], again)
		if t.Failed() {
			return
		}
	}
}
