package fetch

import (
	"strings"
	"testing"

	"granary/api"
	"granary/disk"
)

// P11.1

func TestNoJob(t *testing.T) {
	for _, j := range []*Job{nil, new(Job)} {
		for range 2 {
			askFails(t, j, api.ErrNil)
			putIs(t, j, "", api.ErrNil)
			is(t, "Put", j.Put(strings.Repeat("x", 10000), leastInt), api.ErrNil)
			is(t, "Miss", j.Miss(), api.ErrNil)
			for _, n := range []int{leastInt, -1, 0, 1, longest + 1, mostInt} {
				is(t, "Tick", j.Tick(n), api.ErrNil)
			}
			is(t, "State", j.State(), api.FetchState{})
		}
	}
}

func TestOddCalls(t *testing.T) {
	odd := []int{leastInt, -1, 0, 1, 4096, 4097, 65536, 65537, 1 << 30, mostInt}
	texts := []string{"", "/", "A", dir, "\x00", strings.Repeat("x/", 1000), manifest(t, 5, ours())}
	for _, n := range odd {
		for _, m := range odd {
			for _, text := range texts {
				for _, d := range []*disk.Disk{nil, new(disk.Disk), stored(t)} {
					j, e := Begin(d, text, text, api.Limits{Block: n, Rate: m, Per: n, Burst: m, Tries: n, Base: m, Most: n, Quota: m})
					if j != nil || e == api.OK {
						t.Errorf("Begin with %d, %d, %q = %v, %d", n, m, text, j != nil, e)
					}
				}
			}
			j := begun(t, stored(t))
			j.Put(strings.Repeat("x", 3), n)
			j.Ask()
			j.Put(strings.Repeat("x", m&7), n)
			j.Tick(m)
			j.Ask()
			j.State()
		}
	}
	for _, text := range texts {
		for _, d := range []*disk.Disk{nil, new(disk.Disk), stored(t)} {
			Sweep(d, text)
		}
	}
}

// State, Ask and Tick touch no disk, and State may be asked at any time.
func TestStateTouchesNothing(t *testing.T) {
	d := stored(t)
	j := begun(t, d)
	gives(t, j, "abcd")
	down(t, d)
	reads := d.Reads()
	calm(t, "State, Ask, Tick", d, func() {
		for range 3 {
			goesOn(t, "State", j, 0, 4, 4)
			askIs(t, j, "0_0_0.data", 4, 4)
			done(t, j.Tick(1))
		}
	})
	is(t, "reads", d.Reads(), reads)
}

// Two jobs of different directories of one disk, one step of the one and one of the other: each is as it is alone.
func TestTwoJobs(t *testing.T) {
	one, other := ours(), files("0_0_0.data=0123456789ABCDEF", "meta=!")
	alone := func(dir string, version int, list []api.Pair) []string {
		d := stored(t)
		feed(t, begins(t, d, dir, manifest(t, version, list), limits()), list)
		return under(d, dir)
	}
	d := stored(t)
	a := begins(t, d, dir, manifest(t, 5, one), limits())
	b := begins(t, d, "store/fetch-6", manifest(t, 6, other), limits())
	for range 30 {
		for _, x := range []struct {
			j    *Job
			list []api.Pair
		}{{a, one}, {b, other}} {
			if w, e := x.j.Ask(); e == api.OK {
				putIs(t, x.j, right(x.list, w), api.OK)
			}
			done(t, x.j.Tick(1))
		}
	}
	stateIs(t, "the one", a, 5, api.FetchDone, 3, 0, 13, api.OK)
	stateIs(t, "the other", b, 6, api.FetchDone, 2, 0, 17, api.OK)
	same(t, "the one", under(d, dir), alone(dir, 5, one))
	same(t, "the other", under(d, "store/fetch-6"), alone("store/fetch-6", 6, other))
}

// What fails in the one is not felt by the other, nor is its sweeping.
func TestTwoJobsFailApart(t *testing.T) {
	d := stored(t)
	a := begun(t, d)
	b := begins(t, d, "store/fetch-6", manifest(t, 6, ours()), limits())
	for range 2 {
		askIs(t, a, "0_0_0.data", 0, 4)
		done(t, a.Miss(), a.Tick(1))
	}
	stateIs(t, "the one", a, 5, api.FetchFailed, 0, 0, 0, api.ErrLost)
	is(t, "Sweep", Sweep(d, dir), api.OK)
	gives(t, b, "abcd") // nothing of its bucket is taken
	gives(t, b, "efgh")
	askFails(t, b, api.ErrWait) // and no tick went by
	feed(t, b, ours())
	stateIs(t, "the other", b, 6, api.FetchDone, 3, 0, 13, api.OK)
}

// Somebody else changes the directory, or the disk crashes: every call ends, and a new Begin takes the directory up, or begins anew.
func TestChangedByOthers(t *testing.T) {
	for what, change := range map[string]func(d *disk.Disk){
		"a crash":               func(d *disk.Disk) { d.Crash(0, 0) },
		"all gone":              func(d *disk.Disk) { done(t, Sweep(d, dir)) },
		"the parent gone":       func(d *disk.Disk) { done(t, Sweep(d, "store"), d.Mkdir("store"), d.SyncDir("")) },
		"the journal gone":      func(d *disk.Disk) { done(t, d.Remove(dir+"/journal")) },
		"the manifest gone":     func(d *disk.Disk) { done(t, d.Remove(dir+"/manifest")) },
		"a row gone":            func(d *disk.Disk) { done(t, d.Remove(dir+"/0_0_0.data")) },
		"a row cut":             func(d *disk.Disk) { done(t, d.Truncate(dir+"/0_0_0.data", 0)) },
		"a row longer":          func(d *disk.Disk) { done(t, d.Append(dir+"/0_0_0.data", "xx")) },
		"a directory for a row": func(d *disk.Disk) { done(t, d.Remove(dir+"/0_0_0.data"), d.Mkdir(dir+"/0_0_0.data")) },
		"a file too many":       func(d *disk.Disk) { put(t, d, dir+"/zz", "") },
		"the journal emptied":   func(d *disk.Disk) { done(t, d.Truncate(dir+"/journal", 0)) },
		"another version":       func(d *disk.Disk) { begins(t, d, dir, manifest(t, 6, ours()), limits()) },
		"a second job":          func(d *disk.Disk) { feed(t, begun(t, d), ours()) },
		"a file for all":        func(d *disk.Disk) { done(t, Sweep(d, dir), d.Create(dir)) },
	} {
		for behind := range 4 { // blocks that came ahead of the change
			d := stored(t)
			j := begins(t, d, dir, manifest(t, 5, ours()), ample(4))
			for i := range behind {
				gives(t, j, []string{"abcd", "efgh", "ij"}[i])
			}
			change(d)
			for range 20 {
				j.State()
				w, e := j.Ask()
				if e == api.OK {
					data := right(ours(), w)
					j.Put(data, crc(data))
				}
				j.Miss()
				j.Tick(1)
			}
			if kind, _ := d.Kind(dir); kind == api.IsFile {
				refuses(t, what, d, dir, manifest(t, 5, ours()), ample(4), api.ErrKind)
				continue
			}
			j = begins(t, d, dir, manifest(t, 5, ours()), ample(4))
			feed(t, j, ours())
			stateIs(t, what, j, 5, api.FetchDone, 3, 0, 13, api.OK)
			isWhole(t, what, d, dir, manifest(t, 5, ours()), ours())
		}
	}
}

// A disk that went down takes no job along: calls end, and behind the crash it is taken up.
func TestDiskIsDown(t *testing.T) {
	d := stored(t)
	j := begun(t, d)
	gives(t, j, "abcd")
	askIs(t, j, "0_0_0.data", 4, 4)
	down(t, d)
	putIs(t, j, "efgh", api.ErrDown)
	stateIs(t, "down", j, 5, api.FetchFailed, 0, 4, 4, api.ErrDown)
	if j, e := Begin(d, dir, manifest(t, 5, ours()), limits()); j != nil || e != api.ErrDown {
		t.Errorf("Begin = %v, %d", j != nil, e)
	}
	d.Crash(0, 0)
	goesOn(t, "taken up", begun(t, d), 0, 4, 4)
}

// The greatest manifest that there may be.
func TestManyRows(t *testing.T) {
	var list []api.Pair
	for i := range 1025 {
		name := string([]byte{byte('a' + i/26/26), byte('a' + i/26%26), byte('a' + i%26)})
		list = append(list, api.Pair{Key: name, Value: strings.Repeat("x", i%3)})
	}
	d := stored(t)
	text := manifest(t, 999999, list)
	j := begins(t, d, dir, text, ample(4096))
	for range 300 {
		w, e := j.Ask()
		done(t, e)
		putIs(t, j, right(list, w), api.OK)
	}
	before := j.State()
	d.Crash(0, 0)
	j = begins(t, d, dir, text, ample(4096))
	is(t, "taken up", j.State(), before)
	feed(t, j, list)
	stateIs(t, "at the end", j, 999999, api.FetchDone, 1025, 0, 1024, api.OK)
	isWhole(t, "at the end", d, dir, text, list)
}

// A file that is far greater than what is read at a time.
func TestGreatFile(t *testing.T) {
	text := strings.Repeat("0123456789abcdef", 12289) // three pieces, and 16 bytes
	list := files("a="+text, "b=x")
	d := stored(t)
	j := begins(t, d, dir, manifest(t, 5, list), ample(4096))
	for range 30 {
		w, e := j.Ask()
		done(t, e, j.Tick(1))
		putIs(t, j, right(list, w), api.OK)
	}
	d.Crash(0, 0)
	j = begins(t, d, dir, manifest(t, 5, list), ample(4096))
	goesOn(t, "taken up", j, 0, 30*4096, 30*4096)
	feed(t, j, list)
	isWhole(t, "at the end", d, dir, manifest(t, 5, list), list)
	begins(t, d, dir, manifest(t, 5, list), ample(4096))
	rewrite(t, d, dir+"/a", text[:len(text)-1]+"X")
	goesOn(t, "its last byte is another", begins(t, d, dir, manifest(t, 5, list), ample(4096)), 0, 0, 0)
}
