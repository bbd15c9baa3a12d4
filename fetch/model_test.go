package fetch

import (
	"maps"
	"regexp"
	"slices"
	"strconv"
	"strings"

	"granary/api"
	"granary/disk"
	"granary/paper"
)

// The plain reading of the chapter: it works on a disk of its own, sums whole files each time anew, and counts tokens as parts and failures as a list of numbers.

type reading struct {
	d         *disk.Disk
	dir, text string
	lim       api.Limits
	m         api.Manifest
	safe      map[int]int
	whole     map[int]bool
	parts     int
	failed    map[int]int
	now, next int
	asked     bool
	phase     int
	why       api.Errno

	err api.Errno // of the first act that was refused
}

// act does nothing any more, once one was refused.
func (r *reading) act(do func() api.Errno) {
	if r.err == api.OK {
		r.err = do()
	}
}

func (r *reading) at(name string) string { return r.dir + "/" + name }

func (r *reading) above() string {
	names := strings.Split(r.dir, "/")
	return strings.Join(names[:len(names)-1], "/")
}

func (r *reading) create(name string)  { r.act(func() api.Errno { return r.d.Create(r.at(name)) }) }
func (r *reading) sync(name string)    { r.act(func() api.Errno { return r.d.Sync(r.at(name)) }) }
func (r *reading) syncDir(path string) { r.act(func() api.Errno { return r.d.SyncDir(path) }) }
func (r *reading) append(name, s string) {
	r.act(func() api.Errno { return r.d.Append(r.at(name), s) })
}
func (r *reading) cut(name string, n int) {
	r.act(func() api.Errno { return r.d.Truncate(r.at(name), n) })
}

func (r *reading) note(kind, file, upto, sum int) {
	r.append("journal", note(kind, file, upto, sum))
	r.sync("journal")
}

func (r *reading) bytes(name string) string {
	text, _ := r.d.Read(r.at(name), 0, mostInt)
	return text
}

func (r *reading) fits(i int) bool {
	text, row := r.bytes(r.m.Files[i].Name), r.m.Files[i]
	return len(text) == row.Size && crc(text) == row.Crc && md(text) == row.Md5
}

func inside(n, low, high int) bool { return n >= low && n <= high }

// readBegin is Begin, read plainly.
func readBegin(d *disk.Disk, dir, text string, lim api.Limits) (*reading, api.Errno) {
	r := &reading{d: d, dir: dir, text: text, lim: lim, safe: map[int]int{}, whole: map[int]bool{}, failed: map[int]int{}, phase: 1}
	if d == nil {
		return nil, api.ErrNil
	}
	if !inside(lim.Block, 1, 4096) || lim.Burst < lim.Block || !inside(lim.Quota, 0, 1<<30) {
		return nil, api.ErrArg
	}
	if !inside(lim.Rate, 1, 65536) || !inside(lim.Per, 1, 1024) || !inside(lim.Burst, 1, 65536) {
		return nil, api.ErrArg
	}
	if !inside(lim.Tries, 1, 64) || !inside(lim.Base, 1, 1024) || !inside(lim.Most, lim.Base, 1024) {
		return nil, api.ErrArg
	}
	m, e := paper.ParseManifest(text)
	if e != api.OK {
		return nil, e
	}
	r.m, r.parts = m, lim.Burst*lim.Per
	if e := r.mayBe(); e != api.OK {
		return nil, e
	}
	kind, e := d.Kind(dir)
	if e != api.OK && e != api.ErrNone {
		return nil, e
	}
	if kind == api.IsFile {
		return nil, api.ErrKind
	}
	if kind == api.IsDir && r.good() {
		r.takeUp()
	} else {
		r.anew(kind == api.IsDir)
	}
	if r.err != api.OK {
		return nil, r.err
	}
	return r, api.OK
}

func (r *reading) mayBe() api.Errno {
	for _, f := range r.m.Files {
		if f.Name == "journal" || f.Name == "manifest" {
			return api.ErrFile
		}
	}
	if r.m.Total > r.lim.Quota {
		return api.ErrQuota
	}
	for _, f := range r.m.Files {
		if f.Size == 0 && (f.Crc != 0 || f.Md5 != md("")) {
			return api.ErrWhole
		}
	}
	if r.dir == "" {
		return api.ErrPath
	}
	return api.OK
}

// readSweep is Sweep, read plainly: the paths below rise as whole, and whoever holds another goes behind it.
func readSweep(d *disk.Disk, dir string) api.Errno {
	if d == nil {
		return api.ErrNil
	}
	if dir == "" {
		return api.ErrPath
	}
	kind, e := d.Kind(dir)
	if e == api.ErrNone {
		return api.OK
	}
	if e != api.OK {
		return e
	}
	r := &reading{d: d, dir: dir}
	r.remove(dir, kind)
	r.syncDir(r.above())
	return r.err
}

func (r *reading) remove(path string, kind int) {
	if kind == api.IsDir {
		list, _ := r.d.List(path)
		for _, x := range list {
			r.remove(path+"/"+x.Name, x.Kind)
		}
	}
	r.act(func() api.Errno { return r.d.Remove(path) })
}

func (r *reading) anew(there bool) {
	if there {
		r.remove(r.dir, api.IsDir)
		r.syncDir(r.above())
	}
	r.act(func() api.Errno { return r.d.Mkdir(r.dir) })
	r.create("manifest")
	r.append("manifest", r.text)
	r.sync("manifest")
	r.create("journal")
	r.append("journal", beginNote(r.m.Version, r.text))
	r.sync("journal")
	for i, f := range r.m.Files {
		r.create(f.Name)
		r.whole[i] = f.Size == 0
	}
	r.syncDir(r.dir)
	r.syncDir(r.above())
	if r.current() == len(r.m.Files) {
		r.end()
	}
}

// good tells whether the directory can be taken up.
func (r *reading) good() bool {
	sizes := map[string]int{}
	list, _ := r.d.List(r.dir)
	for _, x := range list {
		if x.Kind != api.IsFile {
			return false
		}
		sizes[x.Name] = x.Size
	}
	_, journal := sizes["journal"]
	delete(sizes, "journal")
	want := []string{"manifest"}
	for _, f := range r.m.Files {
		want = append(want, f.Name)
	}
	slices.Sort(want)
	if !slices.Equal(slices.Sorted(maps.Keys(sizes)), want) || r.bytes("manifest") != r.text {
		return false
	}
	if journal {
		return strings.HasPrefix(r.bytes("journal"), beginNote(r.m.Version, r.text))
	}
	for i := range r.m.Files {
		if !r.fits(i) {
			return false
		}
	}
	return true
}

var noteForm = regexp.MustCompile(`^([1-4]) (0|[1-9][0-9]{0,15}) (0|[1-9][0-9]{0,15}) ([0-9a-f]{8}) [0-9a-f]{8}\n`)

// notes are those of a journal, up to the first line that is none, and their length.
func notes(text string) (list [][4]int, good int) {
	for {
		found := noteForm.FindStringSubmatch(text[good:])
		if found == nil {
			return list, good
		}
		var n [4]int
		for i, base := range []int{10, 10, 10, 16} {
			x, _ := strconv.ParseInt(found[i+1], base, 64)
			n[i] = int(x)
		}
		if n[1] > latest || n[2] > latest || note(n[0], n[1], n[2], n[3]) != found[0] {
			return list, good
		}
		list, good = append(list, n), good+len(found[0])
	}
}

func (r *reading) takeUp() {
	journal := has(r.d, r.at("journal"))
	list, good := notes(r.bytes("journal"))
	if journal {
		if len(r.bytes("journal")) > good {
			r.cut("journal", good)
		}
		r.sync("journal")
	}
	r.sync("manifest")
	r.syncDir(r.dir)
	r.syncDir(r.above())
	for i := range r.m.Files {
		upto, sum, whole := 0, 0, !journal
		for _, n := range list {
			if n[0] == 2 && n[1] == i && n[2] <= r.m.Files[i].Size {
				upto, sum, whole = n[2], n[3], false
			}
			if n[0] == 3 && n[1] == i {
				whole = true
			}
		}
		r.takeUpRow(i, upto, sum, whole)
	}
	if r.current() < len(r.m.Files) {
		return
	}
	if journal {
		r.end()
	} else if r.err == api.OK {
		r.phase = 2
	}
}

func (r *reading) takeUpRow(i, upto, sum int, whole bool) {
	f := r.m.Files[i]
	text := r.bytes(f.Name)
	if whole && r.fits(i) {
		r.sync(f.Name)
		r.safe[i], r.whole[i] = f.Size, true
		return
	}
	if f.Size == 0 {
		if len(text) > 0 {
			r.cut(f.Name, 0)
		}
		r.sync(f.Name)
		r.whole[i] = true
		return
	}
	if upto <= len(text) && crc(text[:upto]) == sum {
		r.safe[i] = upto
	}
	if len(text) > r.safe[i] {
		r.cut(f.Name, r.safe[i])
	}
	r.sync(f.Name)
	if r.safe[i] == f.Size {
		r.close(i)
	}
}

// close tells whether the file's sums fit.
func (r *reading) close(i int) bool {
	f := r.m.Files[i]
	if r.fits(i) {
		r.note(3, i, 0, 0)
		r.whole[i] = true
		delete(r.failed, i)
		return true
	}
	r.cut(f.Name, 0)
	r.sync(f.Name)
	r.note(2, i, 0, 0)
	r.safe[i] = 0
	return false
}

func (r *reading) end() {
	r.note(4, 0, 0, 0)
	r.act(func() api.Errno { return r.d.Remove(r.at("journal")) })
	r.syncDir(r.dir)
	if r.err == api.OK {
		r.phase = 2
	}
}

func (r *reading) current() int {
	for i := range r.m.Files {
		if !r.whole[i] {
			return i
		}
	}
	return len(r.m.Files)
}

func (r *reading) wants() api.Want {
	i := r.current()
	f := r.m.Files[i]
	return api.Want{Version: r.m.Version, File: f.Name, At: r.safe[i], Size: min(r.lim.Block, f.Size-r.safe[i])}
}

func (r *reading) ask() (api.Want, api.Errno) {
	if r.phase != 1 {
		return api.Want{}, api.ErrOver
	}
	w := r.wants()
	if r.asked {
		return w, api.OK
	}
	if r.now < r.next || r.parts < w.Size*r.lim.Per {
		return api.Want{}, api.ErrWait
	}
	r.parts -= w.Size * r.lim.Per
	r.asked = true
	return w, api.OK
}

func (r *reading) failure(why api.Errno) {
	i := r.current()
	r.failed[i]++
	if r.failed[i] == r.lim.Tries {
		r.phase, r.why = 3, why
		return
	}
	wait := r.lim.Base
	for range r.failed[i] - 1 {
		wait = min(2*wait, r.lim.Most)
	}
	r.next = r.now + wait
}

func (r *reading) put(data string, sum int) api.Errno {
	if r.phase != 1 {
		return api.ErrOver
	}
	if !r.asked {
		return api.ErrWait
	}
	r.asked = false
	i, w := r.current(), r.wants()
	if len(data) != w.Size || crc(data) != sum {
		r.failure(api.ErrBlock)
		return api.ErrBlock
	}
	safe, whole := maps.Clone(r.safe), maps.Clone(r.whole)
	r.append(w.File, data)
	r.sync(w.File)
	r.safe[i] += w.Size
	r.note(2, i, r.safe[i], crc(r.bytes(w.File)))
	fits := true
	if r.err == api.OK && r.safe[i] == r.m.Files[i].Size {
		fits = r.close(i)
	}
	if r.current() == len(r.m.Files) {
		r.end()
	}
	if r.err != api.OK {
		r.safe, r.whole, r.phase, r.why = safe, whole, 3, r.err
		return r.err
	}
	if !fits {
		r.failure(api.ErrWhole)
		return api.ErrWhole
	}
	return api.OK
}

func (r *reading) miss() api.Errno {
	if r.phase != 1 {
		return api.ErrOver
	}
	if !r.asked {
		return api.ErrWait
	}
	r.asked = false
	r.failure(api.ErrLost)
	return api.OK
}

func (r *reading) tick(n int) api.Errno {
	if !inside(n, 0, longest) {
		return api.ErrArg
	}
	r.parts = min(r.parts+n*r.lim.Rate, r.lim.Burst*r.lim.Per)
	r.now = min(r.now+n, latest)
	return api.OK
}

func (r *reading) state() api.FetchState {
	s := api.FetchState{Version: r.m.Version, Phase: r.phase, File: r.current(), Why: r.why}
	for i, f := range r.m.Files {
		if r.whole[i] {
			s.Got += f.Size
		} else {
			s.Got += r.safe[i]
		}
	}
	if s.File < len(r.m.Files) {
		s.At = r.safe[s.File]
	}
	return s
}
