package fetch

import (
	"fmt"
	"slices"
	"testing"

	"granary/api"
	"granary/disk"
)

// move is a call of a job's story: what comes for the block that is asked for.
type move struct {
	data string // with its own sum
	want api.Errno
	miss bool
}

// story is a small job in which everything happens: blocks that are wrong, that do not come, that are forged.
func story() (list []api.Pair, text func(t *testing.T) string, moves []move) {
	list = files("a=abcde", "b=", "c=xyz")
	return list, func(t *testing.T) string { return manifest(t, 5, list) }, []move{
		{data: "ab"}, {miss: true}, {data: "cX"}, {data: "e", want: api.ErrWhole},
		{data: "ab"}, {data: "c", want: api.ErrBlock}, {data: "cd"}, {data: "e"}, {data: "xy"}, {data: "z"},
	}
}

// goBy does a move, and tells whether its Put answered as it should.
func goBy(j *Job, m move) bool {
	j.Tick(1)
	j.Ask()
	if m.miss {
		return j.Miss() == api.OK
	}
	return j.Put(m.data, crc(m.data)) == m.want
}

// until is the story's job on a new disk, behind so many of its moves.
func until(t *testing.T, count int) (*disk.Disk, *Job) {
	t.Helper()
	_, text, moves := story()
	d := stored(t)
	j := begins(t, d, dir, text(t), ample(2))
	for i, m := range moves[:count] {
		if !goBy(j, m) {
			t.Fatalf("move %d", i)
		}
	}
	return d, j
}

// far is how far a job is, as P11.14 speaks of it.
func far(j *Job) api.FetchState {
	s := j.State()
	return api.FetchState{File: s.File, At: s.At, Got: s.Got}
}

// P11.13, P11.14: every call of the story is broken off behind any number of acts, and anything may survive; and so is the Begin that follows.

// broken lets a call be broken off in all ways, and tells the disks. Of an Append that survives in part, the bytes that do are each number of them, or every so many.
func broken(t *testing.T, every int, ready func() (*disk.Disk, func()), tell func(what string, again func() *disk.Disk)) {
	t.Helper()
	d, call := ready()
	before := d.Acts()
	call()
	acts := d.Acts() - before
	for k := range acts + 1 {
		for keep, pending := 0, 0; keep <= pending; keep++ {
			var last []api.Stored
			for torn := 0; ; torn += every {
				again := func() *disk.Disk {
					d, call := ready()
					done(t, d.Arm(k))
					call()
					pending = d.Pending()
					d.Crash(keep, torn)
					return d
				}
				left := again().Dump()
				if torn > 0 && slices.Equal(left, last) {
					break // all its bytes were there, or it is no Append
				}
				last = left
				tell(fmt.Sprintf("%d of %d acts, %d changes and %d bytes survive", k, acts, keep, torn), again)
			}
		}
	}
}

func TestNothingIsAskedForTwice(t *testing.T) {
	_, text, moves := story()
	for i, m := range moves {
		_, j := until(t, i)
		ahead := far(j)
		_, j = until(t, i+1)
		behind := far(j)
		ready := func() (*disk.Disk, func()) {
			d, j := until(t, i)
			return d, func() { goBy(j, m) }
		}
		broken(t, 1, ready, func(what string, again func() *disk.Disk) {
			d := again()
			j := begins(t, d, dir, text(t), ample(2))
			if s := far(j); s != ahead && s != behind {
				t.Fatalf("move %d, %s: %+v, want %+v or %+v", i, what, s, ahead, behind)
			}
		})
	}
}

// The Begin that takes up is broken off too, and what it found stays.
func TestTakingUpIsBrokenOff(t *testing.T) {
	list, text, moves := story()
	for i, m := range moves {
		_, j := until(t, i)
		ahead := far(j)
		_, j = until(t, i+1)
		behind := far(j)
		ready := func() (*disk.Disk, func()) {
			d, j := until(t, i)
			return d, func() { goBy(j, m) }
		}
		lot := dice(i)
		broken(t, 1, ready, func(what string, again func() *disk.Disk) {
			k, keep, torn := lot.roll(12), lot.roll(3), lot.roll(40)
			d := again()
			done(t, d.Arm(k))
			Begin(d, dir, text(t), ample(2))
			d.Crash(keep, torn)
			j := begins(t, d, dir, text(t), ample(2))
			if s := far(j); s != ahead && s != behind {
				t.Fatalf("move %d, %s, then Begin broken off at %d, %d, %d: %+v, want %+v or %+v", i, what, k, keep, torn, s, ahead, behind)
			}
			feed(t, j, list)
			isWhole(t, what, d, dir, text(t), list)
		})
	}
}

// The same, with every place at which that Begin can be broken off.
func TestTakingUpIsBrokenOffAnywhere(t *testing.T) {
	_, text, moves := story()
	for i := range moves {
		_, j := until(t, i)
		ahead := far(j)
		_, j = until(t, i+1)
		behind := far(j)
		ready := func() (*disk.Disk, func()) {
			d, j := until(t, i)
			return d, func() { goBy(j, moves[i]) }
		}
		broken(t, 3, ready, func(first string, again func() *disk.Disk) {
			taken := func() (*disk.Disk, func()) {
				d := again()
				return d, func() { Begin(d, dir, text(t), ample(2)) }
			}
			broken(t, 3, taken, func(second string, again func() *disk.Disk) {
				j := begins(t, again(), dir, text(t), ample(2))
				if s := far(j); s != ahead && s != behind {
					t.Fatalf("move %d, %s, then %s: %+v, want %+v or %+v", i, first, second, s, ahead, behind)
				}
			})
		})
	}
}

// Begin where nothing is, where another version is, and where nothing is left to be fetched.
func TestBeginIsBrokenOff(t *testing.T) {
	list, text, _ := story()
	for what, lie := range map[string]func(d *disk.Disk){
		"nothing": func(*disk.Disk) {},
		"another version": func(d *disk.Disk) {
			j := begins(t, d, dir, manifest(t, 4, list), ample(4))
			gives(t, j, "abcd")
		},
		"litter": func(d *disk.Disk) { put(t, d, dir+"/journal/x", "x"); put(t, d, dir+"/a", "abcde") },
	} {
		ready := func() (*disk.Disk, func()) {
			d := stored(t)
			lie(d)
			return d, func() { Begin(d, dir, text(t), ample(2)) }
		}
		broken(t, 1, ready, func(how string, again func() *disk.Disk) {
			d := again()
			j := begins(t, d, dir, text(t), ample(2))
			goesOn(t, what+", "+how, j, 0, 0, 0)
			feed(t, j, list)
			isWhole(t, what+", "+how, d, dir, text(t), list)
		})
	}
	for _, list := range [][]api.Pair{nil, files("a=", "b=")} {
		ready := func() (*disk.Disk, func()) {
			d := stored(t)
			return d, func() { Begin(d, dir, manifest(t, 5, list), ample(2)) }
		}
		broken(t, 1, ready, func(how string, again func() *disk.Disk) {
			d := again()
			j := begins(t, d, dir, manifest(t, 5, list), ample(2))
			stateIs(t, how, j, 5, api.FetchDone, len(list), 0, 0, api.OK)
			isWhole(t, how, d, dir, manifest(t, 5, list), list)
		})
	}
}

// A job that is broken off again and again gets done all the same, and no block that Put took with OK is asked for twice.
func TestBrokenOffAgainAndAgain(t *testing.T) {
	list := files("a=abcdefghijklmno", "b=", "c=12345", "d=6")
	text := manifest(t, 5, list)
	for seed := range 400 {
		lot := dice(seed)
		d := stored(t)
		took := map[api.Want]int{}
		var j *Job
		for rounds := 0; j == nil || j.State().Phase != api.FetchDone; rounds++ {
			if rounds > 1000 {
				t.Fatalf("seed %d: it does not end", seed)
			}
			if j == nil || j.State().Phase != api.FetchRunning {
				d.Crash(lot.roll(d.Pending()+1), lot.roll(30))
				d.Arm(lot.roll(30))
				j, _ = Begin(d, dir, text, ample(4))
				continue
			}
			w, e := j.Ask()
			done(t, e)
			if took[w] > 0 {
				t.Fatalf("seed %d: %+v is asked for again", seed, w)
			}
			data := right(list, w)
			if j.Put(data, crc(data)) == api.OK {
				took[w]++
			}
		}
		isWhole(t, fmt.Sprint("seed ", seed), d, dir, text, list)
	}
}

// P11.13: whatever was in the directory ahead, whoever laid it there, safe or not, and whatever blocks come.
func TestWhatIsDoneIsWhole(t *testing.T) {
	list := files("a=abcde", "b=", "c=xyz")
	text := manifest(t, 5, list)
	contents := map[string][]string{
		"manifest": {"-", "", text, manifest(t, 6, list)},
		"a":        {"-", "", "ab", "abcde", "abcdX", "abcdef"},
		"b":        {"-", "", "x"},
		"c":        {"-", "", "xyz", "xyZ"},
		"journal": {"-", "", "x", beginNote(5, text), beginNote(6, text), beginNote(5, text) + note(3, 0, 0, 0) + note(3, 1, 0, 0) + note(3, 2, 0, 0),
			beginNote(5, text) + note(2, 0, 2, crc("ab")) + note(2, 2, 3, crc("xyz")), beginNote(5, text) + note(2, 0, 5, crc("abcdX")) + note(3, 2, 0, 0) + "litter"},
		"more": {"-", "-", "-", ""},
	}
	for seed := range 4000 {
		lot := dice(seed)
		d := stored(t)
		done(t, d.Mkdir(dir))
		for _, name := range []string{"manifest", "a", "b", "c", "journal", "more"} {
			if data := contents[name][lot.roll(len(contents[name]))]; data != "-" {
				put(t, d, dir+"/"+name, data)
			}
		}
		if lot.roll(2) == 0 {
			safe(t, d)
		}
		j := begins(t, d, dir, text, ample(2))
		for calls := 0; j.State().Phase == api.FetchRunning && calls < 10000; calls++ {
			w, e := j.Ask()
			if e == api.ErrWait {
				done(t, j.Tick(1))
				continue
			}
			data := right(list, w)
			if lot.roll(12) == 0 {
				data = "XXXX"[:len(data)]
			}
			j.Put(data, crc(data))
		}
		stateIs(t, "at the end", j, 5, api.FetchDone, 3, 0, 8, api.OK)
		isWhole(t, fmt.Sprint("seed ", seed), d, dir, text, list)
	}
}
