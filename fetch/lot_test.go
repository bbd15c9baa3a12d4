package fetch

import (
	"fmt"
	"slices"
	"strings"
	"testing"

	"granary/api"
	"granary/disk"
)

// P11.1 to P11.14: jobs drawn by lot, on a disk that goes down and crashes and in whose directories others write, are held against the plain reading on a disk of its own.

// course is what a run goes by: the program and the reading, side by side.
type course struct {
	t     *testing.T
	lot   dice
	own   *disk.Disk
	twin  *disk.Disk
	dir   string
	sets  [][]api.Pair // of files
	texts []string     // their manifests
	set   int          // which of them the job is of
	lim   api.Limits
	job   *Job
	read  *reading
	told  []string
	ends  int // how often a job was done
	taken int // how often one was taken up with bytes that are safe
}

func (c *course) tell(format string, all ...any) {
	c.told = append(c.told, fmt.Sprintf(format, all...))
}

// alike holds the two disks and the two jobs against one another.
func (c *course) alike(got, want any) {
	c.t.Helper()
	if got != want || c.own.Acts() != c.twin.Acts() || c.own.Pending() != c.twin.Pending() || c.own.Down() != c.twin.Down() || !slices.Equal(c.own.Dump(), c.twin.Dump()) {
		c.t.Fatalf("%s\n= %v, %d acts, %d pending\n%q\nwant %v, %d acts, %d pending\n%q", strings.Join(c.told, "\n"),
			got, c.own.Acts(), c.own.Pending(), under(c.own, c.dir), want, c.twin.Acts(), c.twin.Pending(), under(c.twin, c.dir))
	}
	if c.job != nil {
		if s, w := c.job.State(), c.read.state(); s != w {
			c.t.Fatalf("%s\nState = %+v, want %+v", strings.Join(c.told, "\n"), s, w)
		}
	}
}

// both does something to the two disks.
func (c *course) both(do func(d *disk.Disk)) {
	do(c.own)
	do(c.twin)
}

func (c *course) begin() {
	c.t.Helper()
	lim := c.lim
	switch c.lot.roll(30) {
	case 0:
		lim.Quota = c.lot.roll(20)
	case 1:
		lim.Block = c.lot.roll(3)
	}
	j, e := Begin(c.own, c.dir, c.texts[c.set], lim)
	r, want := readBegin(c.twin, c.dir, c.texts[c.set], lim)
	c.job, c.read = j, r
	c.tell("Begin(%d, %+v) = %v, %d", c.set, lim, j != nil, e)
	if (j != nil) != (e == api.OK) {
		c.t.Fatalf("%s", strings.Join(c.told, "\n"))
	}
	c.alike(e, want)
	if j != nil && j.State().At > 0 {
		c.taken++
	}
}

// word is some bytes.
func (c *course) word(n int) string {
	var out strings.Builder
	for range n {
		out.WriteByte("abcdefgh"[c.lot.roll(8)])
	}
	return out.String()
}

// files draws some, of sizes about the blocks'.
func (c *course) files() []api.Pair {
	var list []api.Pair
	for _, name := range []string{"0_0_0.data", "0_0_0.index", "in.between", "meta", "z"} {
		if c.lot.roll(2) == 0 {
			size := max(0, c.lot.roll(4)*c.lim.Block+c.lot.roll(3)-1)
			if c.lot.roll(4) == 0 {
				size = 0
			}
			list = append(list, api.Pair{Key: name, Value: c.word(size)})
		}
	}
	return list
}

func (c *course) put() {
	c.t.Helper()
	w, _ := c.read.ask() // asked once more: nothing changes, if a block is asked for
	if _, e := c.job.Ask(); e == api.OK && c.read.asked != true {
		c.t.Fatalf("%s\nAsk: %d", strings.Join(c.told, "\n"), e)
	}
	data := right(c.sets[c.set], w)
	sum := crc(data)
	switch c.lot.roll(16) {
	case 0:
		data = data[:c.lot.roll(len(data)+1)]
		sum = crc(data)
	case 1:
		data += "x"
		sum = crc(data)
	case 2:
		sum = []int{leastInt, -1, 0, sum + 1, mostInt}[c.lot.roll(5)]
	case 3, 4:
		data = c.word(len(data))
		sum = crc(data)
	}
	e := c.job.Put(data, sum)
	c.tell("Put(%q, %08x) = %d", data, sum, e)
	c.alike(e, c.read.put(data, sum))
}

func (c *course) call() {
	c.t.Helper()
	switch c.lot.roll(12) {
	case 0:
		e := c.job.Miss()
		c.tell("Miss = %d", e)
		c.alike(e, c.read.miss())
	case 1, 2:
		n := []int{0, 1, 2, 5, 20, -1, longest, longest + 1}[c.lot.roll(8)]
		e := c.job.Tick(n)
		c.tell("Tick(%d) = %d", n, e)
		c.alike(e, c.read.tick(n))
	case 3, 4, 5:
		w, e := c.job.Ask()
		c.tell("Ask = %+v, %d", w, e)
		v, f := c.read.ask()
		c.alike(struct {
			w api.Want
			e api.Errno
		}{w, e}, struct {
			w api.Want
			e api.Errno
		}{v, f})
	default:
		c.put()
	}
}

// crash takes the power away; the job is taken up, or another is begun in its place.
func (c *course) crash() {
	c.t.Helper()
	keep, torn := c.lot.roll(c.own.Pending()+2), c.lot.roll(40)
	c.tell("Crash(%d, %d) of %d", keep, torn, c.own.Pending())
	c.both(func(d *disk.Disk) { d.Crash(keep, torn) })
	if c.lot.roll(4) == 0 {
		k := c.lot.roll(25)
		c.tell("Arm(%d)", k)
		c.both(func(d *disk.Disk) { d.Arm(k) })
	}
	if c.lot.roll(6) == 0 {
		c.set = c.lot.roll(len(c.sets))
	}
	c.begin()
}

// spoil lets somebody write in the directory; then a job is begun.
func (c *course) spoil() {
	c.t.Helper()
	names := []string{"manifest", "journal", "journal", "journal"}
	for _, f := range c.sets[c.set] {
		names = append(names, f.Key, f.Key)
	}
	path := c.dir + "/" + names[c.lot.roll(len(names))]
	cut, line := c.lot.roll(60), c.line()
	what := c.lot.roll(12)
	c.tell("spoil %s in the way %d, %d, %q", path, what, cut, line)
	c.both(func(d *disk.Disk) {
		size, _ := d.Size(path)
		switch what {
		case 0:
			d.Truncate(path, max(0, size-cut))
		case 1:
			d.Remove(path)
		case 2:
			d.Create(path)
		case 3:
			d.Append(path, line[:cut%len(line)])
		case 4:
			d.Mkdir(c.dir + "/more")
		case 5:
			d.Create(c.dir + "/a")
		case 6:
			d.Remove(path)
			d.Mkdir(path)
			d.Create(path + "/deep")
		default:
			d.Append(c.dir+"/journal", line)
		}
	})
	c.begin()
}

// line is a note that may say anything, but often something that is nearly true.
func (c *course) line() string {
	list := c.sets[c.set]
	kind, file := 1+c.lot.roll(4), c.lot.roll(len(list)+2)
	if file >= len(list) || kind != 2 {
		return note(kind, file, c.lot.roll(30), c.lot.roll(2))
	}
	text := list[file].Value
	upto := c.lot.roll(len(text) + 1)
	sum := crc(text[:upto])
	if c.lot.roll(3) == 0 {
		upto += c.lot.roll(3)
	}
	return note(2, file, upto, sum)
}

// lay lets somebody lay a whole directory there, or nearly.
func (c *course) lay() {
	c.t.Helper()
	c.both(func(d *disk.Disk) { readSweep(d, c.dir) })
	path := func(name string) string { return c.dir + "/" + name }
	journal, short, all := c.lot.roll(2) == 0, c.lot.roll(3), c.lot.roll(3) > 0
	text := beginNote(5+c.set, c.texts[c.set])
	for range c.lot.roll(8) {
		text += c.line()
	}
	c.tell("laid: a journal %v, %q, short %d, all safe %v", journal, text, short, all)
	c.both(func(d *disk.Disk) {
		d.Mkdir(c.dir)
		d.Create(path("manifest"))
		d.Append(path("manifest"), c.texts[c.set])
		for i, f := range c.sets[c.set] {
			d.Create(path(f.Key))
			d.Append(path(f.Key), f.Value)
			if short == 0 && i == 0 && len(f.Value) > 0 {
				d.Truncate(path(f.Key), len(f.Value)-1)
			}
		}
		if journal {
			d.Create(path("journal"))
			d.Append(path("journal"), text)
		}
	})
	if all {
		c.both(func(d *disk.Disk) {
			if !d.Down() {
				d.SyncDir(c.dir)
			}
		})
	}
	c.begin()
}

// ended holds that what is done is whole, behind a crash too.
func (c *course) ended() {
	c.t.Helper()
	c.ends++
	isWhole(c.t, strings.Join(c.told, "\n"), c.own, c.dir, c.texts[c.set], c.sets[c.set])
	c.both(func(d *disk.Disk) { d.Crash(0, 0) })
	c.begin()
	if c.lot.roll(2) == 0 {
		e := Sweep(c.own, c.dir)
		c.tell("Sweep = %d", e)
		c.job = nil
		c.alike(e, readSweep(c.twin, c.dir))
		c.begin()
	}
}

func newCourse(t *testing.T, seed int) *course {
	c := &course{t: t, lot: dice(seed)}
	c.lot.roll(2)
	block := 1 + c.lot.roll(5)
	c.lim = api.Limits{Block: block, Rate: 1 + c.lot.roll(9), Per: 1 + c.lot.roll(3), Burst: block + c.lot.roll(9), Tries: 1 + c.lot.roll(5), Base: 1 + c.lot.roll(3), Most: 3 + c.lot.roll(5), Quota: 100}
	c.dir = []string{"store/fetch-5", "f", "a/b/c"}[c.lot.roll(3)]
	size := 1 << 20
	if c.lot.roll(5) == 0 {
		size = 300 + c.lot.roll(900) // it may become full
	}
	c.own, c.twin = fresh(t, size), fresh(t, size)
	c.both(func(d *disk.Disk) {
		done(t, d.Mkdir("store"), d.Mkdir("a"), d.Mkdir("a/b"), d.SyncDir(""), d.SyncDir("a"))
	})
	for i := range 2 + c.lot.roll(2) {
		list := c.files()
		if i > 0 && c.lot.roll(2) == 0 {
			list = c.sets[0]
		}
		c.sets = append(c.sets, list)
		c.texts = append(c.texts, manifest(t, 5+i, list))
	}
	return c
}

func (c *course) run(steps int) {
	c.begin()
	for range steps {
		if c.job == nil {
			c.crash()
			continue
		}
		if c.job.State().Phase == api.FetchDone && c.lot.roll(4) == 0 {
			c.ended()
			continue
		}
		switch c.lot.roll(24) {
		case 0:
			c.crash()
		case 1:
			k := c.lot.roll(12)
			c.tell("Arm(%d)", k)
			c.both(func(d *disk.Disk) { d.Arm(k) })
		case 2:
			c.spoil()
		case 3:
			if c.lot.roll(3) == 0 {
				c.lay()
			}
		default:
			c.call()
		}
	}
}

func TestJobsByLot(t *testing.T) {
	ends, taken := 0, 0
	for seed := range 2000 {
		c := newCourse(t, seed)
		c.run(60)
		if t.Failed() {
			t.Fatalf("seed %d", seed)
		}
		ends += c.ends
		taken += c.taken
	}
	if ends < 1000 || taken < 1000 {
		t.Errorf("%d jobs were done, %d were taken up with bytes that are safe", ends, taken)
	}
}
