package fetch

import (
	"crypto/md5"
	"fmt"
	"hash/crc32"
	"reflect"
	"slices"
	"strings"
	"testing"

	"granary/api"
	"granary/digest"
	"granary/disk"
	"granary/paper"
)

const (
	mostInt  = int(^uint(0) >> 1)
	leastInt = -mostInt - 1
	longest  = 1099511627776    // ticks that may go by at a time
	latest   = 9007199254740992 // MaxNumber

	dir = "store/fetch-5"
)

func is[T comparable](t *testing.T, what string, got, want T) {
	t.Helper()
	if got != want {
		t.Errorf("%s: %v, want %v", what, got, want)
	}
}

func same(t *testing.T, what string, got, want any) {
	t.Helper()
	if !reflect.DeepEqual(got, want) {
		t.Errorf("%s: %+v, want %+v", what, got, want)
	}
}

func done(t *testing.T, all ...api.Errno) {
	t.Helper()
	for i, e := range all {
		if e != api.OK {
			t.Fatalf("call %d: %d", i, e)
		}
	}
}

func fresh(t *testing.T, capacity int) *disk.Disk {
	t.Helper()
	d, e := disk.New(capacity)
	done(t, e)
	return d
}

// stored is a disk with the directory store, which is safe.
func stored(t *testing.T) *disk.Disk {
	t.Helper()
	d := fresh(t, 1<<20)
	done(t, d.Mkdir("store"), d.SyncDir(""))
	return d
}

// put makes a file, with all directories on its way, or a directory if its path ends with '/'.
func put(t *testing.T, d *disk.Disk, path, data string) {
	t.Helper()
	names := strings.Split(path, "/")
	for i := 1; i < len(names); i++ {
		if dir := disk.Path(names[:i]...); !has(d, dir) {
			done(t, d.Mkdir(dir))
		}
	}
	if names[len(names)-1] != "" {
		done(t, d.Create(path), d.Append(path, data))
	}
}

func has(d *disk.Disk, path string) bool {
	_, e := d.Kind(path)
	return e == api.OK
}

// bytesOf is a file's bytes.
func bytesOf(t *testing.T, d *disk.Disk, path string) string {
	t.Helper()
	text, e := d.Read(path, 0, mostInt)
	done(t, e)
	return text
}

// rewrite gives a file other bytes.
func rewrite(t *testing.T, d *disk.Disk, path, data string) {
	t.Helper()
	done(t, d.Truncate(path, 0), d.Append(path, data))
}

// safe makes all that is on a disk safe.
func safe(t *testing.T, d *disk.Disk) {
	t.Helper()
	for _, x := range d.Dump() {
		if x.Kind == api.IsFile {
			done(t, d.Sync(x.Path))
		} else {
			done(t, d.SyncDir(x.Path))
		}
	}
	done(t, d.SyncDir(""))
}

// under is what a disk has in a directory, by the names there.
func under(d *disk.Disk, dir string) []string {
	var list []string
	for _, x := range d.Dump() {
		if rest, ok := strings.CutPrefix(x.Path, dir+"/"); ok {
			list = append(list, rest+"="+x.Data)
		}
	}
	return list
}

// calm holds that what is done leaves a disk as it was.
func calm(t *testing.T, what string, d *disk.Disk, do func()) {
	t.Helper()
	acts, pending, dump, isDown := d.Acts(), d.Pending(), d.Dump(), d.Down()
	do()
	if d.Acts() != acts || d.Pending() != pending || d.Down() != isDown || !slices.Equal(d.Dump(), dump) {
		t.Errorf("%s: the disk was changed", what)
	}
}

// down takes a disk down.
func down(t *testing.T, d *disk.Disk) {
	t.Helper()
	done(t, d.Arm(0))
	is(t, "the last act", d.SyncDir(""), api.ErrDown)
}

func crc(text string) int { return int(crc32.ChecksumIEEE([]byte(text))) }

func md(text string) string {
	sum := md5.Sum([]byte(text))
	return string(sum[:])
}

// files are told as name=bytes, by rising names.
func files(all ...string) []api.Pair {
	var list []api.Pair
	for _, s := range all {
		name, data, _ := strings.Cut(s, "=")
		list = append(list, api.Pair{Key: name, Value: data})
	}
	return list
}

// ours are the files of the chapter's examples.
func ours() []api.Pair { return files("0_0_0.data=abcdefghij", "0_0_0.index=", "meta=xyz") }

// manifest is the text of some files' manifest.
func manifest(t *testing.T, version int, list []api.Pair) string {
	t.Helper()
	var rows []api.FileRow
	for _, f := range list {
		rows = append(rows, api.FileRow{Name: f.Key, Size: len(f.Value), Crc: crc(f.Value), Md5: md(f.Value)})
	}
	return manifestOf(t, version, rows)
}

func manifestOf(t *testing.T, version int, rows []api.FileRow) string {
	t.Helper()
	m := api.Manifest{Store: "east", Version: version, Files: rows}
	for _, r := range rows {
		m.Total += r.Size
		m.Whole, _ = digest.CRCJoin(m.Whole, r.Crc, r.Size)
	}
	text, e := paper.PrintManifest(m)
	done(t, e)
	return text
}

// limits are those of the chapter's examples.
func limits() api.Limits {
	return api.Limits{Block: 4, Rate: 4, Per: 1, Burst: 8, Tries: 2, Base: 1, Most: 8, Quota: 100}
}

// ample are limits that never make anybody wait.
func ample(block int) api.Limits {
	return api.Limits{Block: block, Rate: 65536, Per: 1, Burst: 65536, Tries: 64, Base: 1, Most: 1, Quota: api.MaxDisk}
}

// note is a line of a journal.
func note(kind, file, upto, sum int) string {
	line := fmt.Sprintf("%d %d %d %08x ", kind, file, upto, sum)
	return line + fmt.Sprintf("%08x\n", crc(line))
}

// beginNote is the line with which a journal begins.
func beginNote(version int, text string) string { return note(1, version, 0, crc(text)) }

// begins begins, and it must be done.
func begins(t *testing.T, d *disk.Disk, dir, text string, lim api.Limits) *Job {
	t.Helper()
	j, e := Begin(d, dir, text, lim)
	if j == nil || e != api.OK {
		t.Fatalf("Begin(%q) = %v, %d", dir, j != nil, e)
	}
	return j
}

// begun is the job of the chapter's examples.
func begun(t *testing.T, d *disk.Disk) *Job {
	t.Helper()
	return begins(t, d, dir, manifest(t, 5, ours()), limits())
}

// refuses holds that a Begin is refused, that there is no job, and that nothing is touched.
func refuses(t *testing.T, what string, d *disk.Disk, dir, text string, lim api.Limits, want api.Errno) {
	t.Helper()
	calm(t, what, d, func() {
		if j, e := Begin(d, dir, text, lim); j != nil || e != want {
			t.Errorf("%s: Begin = %v, %d, want %d", what, j != nil, e, want)
		}
	})
}

func stateIs(t *testing.T, what string, j *Job, version, phase, file, at, got int, why api.Errno) {
	t.Helper()
	is(t, what, j.State(), api.FetchState{Version: version, Phase: phase, File: file, At: at, Got: got, Why: why})
}

// goesOn holds that a job of version 5 is running, with so much of it safe.
func goesOn(t *testing.T, what string, j *Job, file, at, got int) {
	t.Helper()
	stateIs(t, what, j, 5, api.FetchRunning, file, at, got, api.OK)
}

func askIs(t *testing.T, j *Job, file string, at, size int) {
	t.Helper()
	want := api.Want{Version: j.State().Version, File: file, At: at, Size: size}
	if w, e := j.Ask(); w != want || e != api.OK {
		t.Errorf("Ask = %+v, %d, want %+v", w, e, want)
	}
}

func askFails(t *testing.T, j *Job, want api.Errno) {
	t.Helper()
	if w, e := j.Ask(); w != (api.Want{}) || e != want {
		t.Errorf("Ask = %+v, %d, want %d", w, e, want)
	}
}

// putIs hands in bytes with their own sum.
func putIs(t *testing.T, j *Job, data string, want api.Errno) {
	t.Helper()
	if e := j.Put(data, crc(data)); e != want {
		t.Errorf("Put(%.20q) = %d, want %d", data, e, want)
	}
}

// gives asks for a block and hands it in.
func gives(t *testing.T, j *Job, data string) {
	t.Helper()
	if w, e := j.Ask(); e != api.OK || w.Size != len(data) {
		t.Errorf("Ask = %+v, %d, want %d bytes", w, e, len(data))
	}
	putIs(t, j, data, api.OK)
}

// right is the bytes that a block should have.
func right(list []api.Pair, w api.Want) string {
	for _, f := range list {
		if f.Key == w.File {
			return f.Value[w.At : w.At+w.Size]
		}
	}
	return ""
}

// feed hands in right bytes till the job is running no more, and tells how many ticks went by.
func feed(t *testing.T, j *Job, list []api.Pair) int {
	t.Helper()
	ticks := 0
	for range 100000 {
		w, e := j.Ask()
		switch e {
		case api.OK:
			data := right(list, w)
			if e := j.Put(data, crc(data)); e != api.OK && e != api.ErrWhole {
				t.Fatalf("Put of %+v: %d", w, e)
			}
		case api.ErrWait:
			done(t, j.Tick(1))
			ticks++
		default:
			return ticks
		}
	}
	t.Fatal("it does not end")
	return 0
}

// isWhole holds that a directory has a manifest and its files, and nothing else, and that all of it outlives a crash in which nothing survives.
func isWhole(t *testing.T, what string, d *disk.Disk, dir, text string, list []api.Pair) {
	t.Helper()
	want := []string{"manifest=" + text}
	for _, f := range list {
		want = append(want, f.Key+"="+f.Value)
	}
	slices.Sort(want)
	same(t, what, under(d, dir), want)
	d.Crash(0, 0)
	same(t, what+", behind a crash", under(d, dir), want)
}

// step is an act, for telling which are done.
type step struct {
	do, path, data string
	size           int
}

func (s step) on(d *disk.Disk) api.Errno {
	switch s.do {
	case "mkdir":
		return d.Mkdir(s.path)
	case "create":
		return d.Create(s.path)
	case "append":
		return d.Append(s.path, s.data)
	case "truncate":
		return d.Truncate(s.path, s.size)
	case "remove":
		return d.Remove(s.path)
	case "sync":
		return d.Sync(s.path)
	case "syncdir":
		return d.SyncDir(s.path)
	}
	return api.ErrArg
}

// noted are the acts by which a note comes into the journal.
func noted(line string) []step {
	return []step{{do: "append", path: dir + "/journal", data: line}, {do: "sync", path: dir + "/journal"}}
}

// ended are the acts by which a job is ended.
func ended() []step {
	return append(noted(note(4, 0, 0, 0)), step{do: "remove", path: dir + "/journal"}, step{do: "syncdir", path: dir})
}

// laid are the acts by which a block comes into a file, and into the journal.
func laid(name, data, line string) []step {
	return append([]step{{do: "append", path: dir + "/" + name, data: data}, {do: "sync", path: dir + "/" + name}}, noted(line)...)
}

// emptied are the acts by which a file begins anew.
func emptied(name string, file int) []step {
	return append([]step{{do: "truncate", path: dir + "/" + name}, {do: "sync", path: dir + "/" + name}}, noted(note(2, file, 0, 0))...)
}

// actsAre holds that a call does just these acts, in this order, with the disk going down at each of them, and any of them surviving.
func actsAre(t *testing.T, what string, ready func() (*disk.Disk, func() api.Errno), answer api.Errno, want ...[]step) {
	t.Helper()
	steps := slices.Concat(want...)
	for k := range len(steps) + 1 {
		for keep := 0; ; keep++ {
			d, call := ready()
			before := d.Acts()
			done(t, d.Arm(k))
			e := call()
			if k < len(steps) && e != api.ErrDown || k == len(steps) && e != answer || d.Acts()-before != k {
				t.Fatalf("%s, armed with %d: %d, behind %d acts, want %d acts", what, k, e, d.Acts()-before, len(steps))
			}
			twin, _ := ready()
			for i, s := range steps[:k] {
				if e := s.on(twin); e != api.OK {
					t.Fatalf("%s: the act %d is refused: %d", what, i, e)
				}
			}
			pending := d.Pending()
			if pending != twin.Pending() || !slices.Equal(d.Dump(), twin.Dump()) {
				t.Fatalf("%s, behind %d acts: %d pending, want %d\n%+v, want\n%+v", what, k, pending, twin.Pending(), d.Dump(), twin.Dump())
			}
			d.Crash(keep, 3)
			twin.Crash(keep, 3)
			if !slices.Equal(d.Dump(), twin.Dump()) {
				t.Fatalf("%s, behind %d acts and a crash that %d survive:\n%+v, want\n%+v", what, k, keep, d.Dump(), twin.Dump())
			}
			if keep >= pending {
				break
			}
		}
	}
}

// dice are numbers that are the same in every run.
type dice uint64

func (d *dice) roll(n int) int {
	*d = *d*6364136223846793005 + 1442695040888963407
	return int(uint64(*d)>>33) % n
}
