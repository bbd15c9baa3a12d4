package sorter

import (
	"fmt"
	"iter"
	"reflect"
	"sort"
	"testing"

	"granary/api"
	"granary/disk"
)

// A plain reading of the chapter, with all rows in memory and a disk of its own, against which the program is held over many lives.

type plainSorter struct {
	d           *disk.Disk
	dir         string
	memory, fan int

	takes, finished, closed, broken bool

	held []api.Row
	seq  int
	runs []plainRun
	used int
	peak int
}

type plainRun struct {
	number int
	rows   []api.Row
}

func plainWeight(rows ...api.Row) int {
	sum := 0
	for _, r := range rows {
		sum += 16 + len(r.Hash) + len(r.Key) + len(r.Value)
	}
	return sum
}

func plainLess(a, b api.Row) bool {
	if a.Hash != b.Hash {
		return a.Hash < b.Hash
	}
	if a.Key != b.Key {
		return a.Key < b.Key
	}
	return a.Seq < b.Seq
}

func plainSort(rows []api.Row) {
	sort.Slice(rows, func(i, j int) bool { return plainLess(rows[i], rows[j]) })
}

func plainNew(d *disk.Disk, dir string, memory, fan int) (*plainSorter, api.Errno) {
	if memory < 1 || memory > 1<<30 || fan < 2 || fan > 16 {
		return nil, api.ErrArg
	}
	if e := d.Mkdir(dir); e != 0 {
		return nil, e
	}
	return &plainSorter{d: d, dir: dir, memory: memory, fan: fan, takes: true}, 0
}

func (p *plainSorter) path(number int) string { return fmt.Sprintf("%s/run-%d", p.dir, number) }

// newRun makes the file of the next run.
func (p *plainSorter) newRun() (int, api.Errno) {
	if e := p.d.Create(p.path(p.used + 1)); e != 0 {
		p.broken = true
		return 0, e
	}
	p.used++
	p.runs = append(p.runs, plainRun{number: p.used})
	return p.used, 0
}

func (p *plainSorter) flush() api.Errno {
	n, e := p.newRun()
	if e != 0 {
		return e
	}
	plainSort(p.held)
	if e := p.d.Append(p.path(n), bytesOf(p.held...)); e != 0 {
		p.broken = true
		return e
	}
	p.runs[len(p.runs)-1].rows = p.held
	p.held = nil
	return 0
}

func (p *plainSorter) Add(hash, key, value string) api.Errno {
	row := api.Row{Hash: hash, Key: key, Value: value, Seq: p.seq}
	switch {
	case !p.takes || p.broken:
		return api.ErrState
	case len(hash) > 32 || len(key) > 255 || len(value) > 4096:
		return api.ErrArg
	case plainWeight(row)*p.fan > p.memory:
		return api.ErrRow
	}
	if plainWeight(p.held...)+plainWeight(row) > p.memory {
		if e := p.flush(); e != 0 {
			return e
		}
	}
	p.held = append(p.held, row)
	p.seq++
	p.peak = max(p.peak, plainWeight(p.held...))
	return 0
}

// take takes the first row, in the order, of these runs.
func (p *plainSorter) take(runs []plainRun) (api.Row, bool) {
	at, weight := -1, 0
	for i, r := range runs {
		if len(r.rows) == 0 {
			continue
		}
		weight += plainWeight(r.rows[0])
		if at < 0 || plainLess(r.rows[0], runs[at].rows[0]) {
			at = i
		}
	}
	if at < 0 {
		return api.Row{}, false
	}
	p.peak = max(p.peak, weight)
	row := runs[at].rows[0]
	runs[at].rows = runs[at].rows[1:]
	return row, true
}

func (p *plainSorter) merge() api.Errno {
	n, e := p.newRun()
	if e != 0 {
		return e
	}
	var rows []api.Row
	for {
		row, ok := p.take(p.runs[:p.fan])
		if !ok {
			break
		}
		if e := p.d.Append(p.path(n), bytesOf(row)); e != 0 {
			p.broken = true
			return e
		}
		rows = append(rows, row)
	}
	p.runs[len(p.runs)-1].rows = rows
	for range p.fan {
		if e := p.d.Remove(p.path(p.runs[0].number)); e != 0 {
			p.broken = true
			return e
		}
		p.runs = p.runs[1:]
	}
	return 0
}

func (p *plainSorter) Finish() api.Errno {
	if !p.takes || p.broken {
		return api.ErrState
	}
	if len(p.held) > 0 {
		if e := p.flush(); e != 0 {
			return e
		}
	}
	for len(p.runs) > p.fan {
		if e := p.merge(); e != 0 {
			return e
		}
	}
	p.takes, p.finished = false, true
	return 0
}

func (p *plainSorter) Next() (api.Row, api.Errno) {
	if !p.finished || p.closed || p.broken {
		return api.Row{}, api.ErrState
	}
	if p.d.Down() {
		p.broken = true
		return api.Row{}, api.ErrDown
	}
	row, ok := p.take(p.runs)
	if !ok {
		return api.Row{}, api.ErrEnd
	}
	return row, 0
}

func (p *plainSorter) All() iter.Seq[api.Row] {
	return func(yield func(api.Row) bool) {
		for {
			row, e := p.Next()
			if e != 0 || !yield(row) {
				return
			}
		}
	}
}

func (p *plainSorter) Close() api.Errno {
	if p.closed {
		return api.ErrState
	}
	for len(p.runs) > 0 {
		if e := p.d.Remove(p.path(p.runs[0].number)); e != 0 {
			p.broken = true
			return e
		}
		p.runs = p.runs[1:]
	}
	if e := p.d.Remove(p.dir); e != 0 {
		p.broken = true
		return e
	}
	p.closed, p.takes, p.finished = true, false, false
	return 0
}

func (p *plainSorter) Peak() int { return p.peak }
func (p *plainSorter) Runs() int { return len(p.runs) }

// either is what the program and the plain reading both are.
type either interface {
	Add(hash, key, value string) api.Errno
	Finish() api.Errno
	Next() (api.Row, api.Errno)
	All() iter.Seq[api.Row]
	Close() api.Errno
	Peak() int
	Runs() int
}

// life is what the calls on a sorter, drawn by lot, go by: the same for the program and for the plain reading.
type life struct {
	dir              string
	capacity, memory int
	fan              int
	rows             int  // steps that are nearly all Add
	calm             bool // nothing happens to the disk, and nobody closes the sorter ahead of the end
}

// step does one call, and tells what came of it.
func (l *life) step(s either, d *disk.Disk, at int, lot dice) string {
	n := lot.roll(100)
	switch {
	case at < l.rows && n < 95:
		return fmt.Sprint("Add ", l.add(s, &lot))
	case at == l.rows:
		return fmt.Sprint("Finish ", s.Finish())
	}
	switch n = lot.roll(100); {
	case n < 50:
		row, e := s.Next()
		return fmt.Sprint("Next ", row, e)
	case n < 65:
		return fmt.Sprint("All ", some(s, lot.roll(8)))
	case n < 80:
		return fmt.Sprint("Add ", l.add(s, &lot))
	case l.calm:
		return ""
	case n < 82:
		return fmt.Sprint("Finish ", s.Finish())
	case n < 85:
		return fmt.Sprint("Close ", s.Close())
	case n < 88:
		return fmt.Sprint("Arm ", d.Arm(lot.roll(60)-5))
	case n < 91:
		return fmt.Sprint("Create ", d.Create(disk.Path(l.dir, fmt.Sprintf("run-%d", 1+lot.roll(30)))))
	case n < 94:
		return fmt.Sprint("Mkdir ", d.Mkdir(disk.Path(l.dir, "more")))
	}
	return fmt.Sprint("Remove ", d.Remove(disk.Path(l.dir, "more")))
}

// some is up to so many rows of All.
func some(s either, most int) []api.Row {
	var all []api.Row
	for row := range s.All() {
		all = append(all, row)
		if len(all) >= most {
			break
		}
	}
	return all
}

func (l *life) add(s either, lot *dice) api.Errno {
	room := l.memory/l.fan - 16
	hash := text(lot.roll(3))
	if lot.roll(60) == 0 {
		hash = text(32 + lot.roll(2))
	}
	key := []string{"", "a", "b", "\x00", "\xff"}[lot.roll(5)]
	value := text(max(0, lot.roll(max(1, room+2))-len(hash)-len(key)))
	if lot.roll(40) == 0 {
		value = text(max(0, room+lot.roll(2)-len(hash)-len(key)))
	}
	return s.Add(hash, key, value)
}

// show is what can be asked for without a change.
func show(s either, d *disk.Disk) string {
	return fmt.Sprint(s.Runs(), s.Peak(), d.Acts(), d.Used(), d.Down(), d.Pending())
}

func (l *life) draw(lot *dice) {
	l.dir = []string{"s", "s", "s", "1/t", depths}[lot.roll(5)]
	l.calm = lot.roll(2) == 0
	l.fan = 2 + lot.roll(3)
	if lot.roll(10) == 0 {
		l.fan = 16
	}
	l.memory = l.fan*(14+lot.roll(40)) + lot.roll(l.fan)
	l.capacity = lot.roll(6000)
	if l.calm {
		l.capacity, l.dir = 1<<20, "s"
	}
	l.rows = lot.roll(150)
}

// parents makes the directories that the deepest path leads through.
func parents(t *testing.T, d *disk.Disk) {
	t.Helper()
	for i := 1; i < len(depths)-1; i += 2 {
		done(t, d.Mkdir(depths[:i]))
	}
}

func sameDisks(t *testing.T, l life, got, want *disk.Disk) {
	t.Helper()
	if !reflect.DeepEqual(got.Dump(), want.Dump()) {
		t.Fatalf("%+v: %v, want %v", l, got.Dump(), want.Dump())
	}
}

func TestAgainstAPlainReading(t *testing.T) {
	lot := dice(7)
	for range 800 {
		var l life
		l.draw(&lot)
		d, plainD := fresh(t, l.capacity), fresh(t, l.capacity)
		parents(t, d)
		parents(t, plainD)
		s, e := New(d, l.dir, l.memory, l.fan)
		p, plainE := plainNew(plainD, l.dir, l.memory, l.fan)
		done(t, e, plainE)
		for i := range l.rows + 1 + lot.roll(120) {
			seed := dice(lot.roll(1 << 30))
			got, want := l.step(s, d, i, seed), l.step(p, plainD, i, seed)
			got, want = got+" "+show(s, d), want+" "+show(p, plainD)
			if got != want {
				t.Fatalf("%+v, step %d: %s, want %s", l, i, got, want)
			}
			if i%8 == 0 {
				sameDisks(t, l, d, plainD)
			}
		}
		is(t, "Close", s.Close(), p.Close())
		is(t, "the end", show(s, d), show(p, plainD))
		sameDisks(t, l, d, plainD)
	}
}
