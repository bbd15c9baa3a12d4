package fetch

import (
	"strings"
	"testing"

	"granary/api"
	"granary/disk"
)

// P11.5

func TestBlocksOfARow(t *testing.T) {
	for size := 1; size <= 13; size++ {
		for _, block := range []int{1, 4, size - 1, size, size + 1, 4096} {
			if block < 1 {
				continue
			}
			list := files("a="+strings.Repeat("x", size), "b=y")
			j := begins(t, stored(t), dir, manifest(t, 5, list), ample(block))
			for at := 0; at < size; at += block {
				askIs(t, j, "a", at, min(block, size-at))
				putIs(t, j, right(list, api.Want{File: "a", At: at, Size: min(block, size-at)}), api.OK)
			}
			askIs(t, j, "b", 0, 1)
		}
	}
	for _, size := range []int{4095, 4096, 4097} {
		list := files("a=" + strings.Repeat("x", size))
		j := begins(t, stored(t), dir, manifest(t, 5, list), ample(4096))
		askIs(t, j, "a", 0, min(size, 4096))
		feed(t, j, list)
		stateIs(t, "at the end", j, 5, api.FetchDone, 1, 0, size, api.OK)
	}
}

// Asked again it is the same, whatever went by; no tokens are taken for it.
func TestAskedAgain(t *testing.T) {
	d := stored(t)
	j := begun(t, d)
	for range 5 {
		calm(t, "Ask", d, func() { askIs(t, j, "0_0_0.data", 0, 4) })
		goesOn(t, "Ask", j, 0, 0, 0)
	}
	putIs(t, j, "abcd", api.OK)
	for range 5 {
		askIs(t, j, "0_0_0.data", 4, 4) // eight tokens were there, and no tick went by
	}
	done(t, j.Tick(7))
	askIs(t, j, "0_0_0.data", 4, 4)
	down(t, d)
	askIs(t, j, "0_0_0.data", 4, 4) // a disk is not asked
}

// It waits for just the tokens that the block takes, and takes none while it waits.
func TestAskWaitsForTokens(t *testing.T) {
	lim := limits()
	lim.Rate, lim.Per, lim.Burst = 1, 2, 5
	list := files("a=abcdef", "b=123")
	j := begins(t, stored(t), dir, manifest(t, 5, list), lim)
	gives(t, j, "abcd") // one token is left
	for range 2 {
		for range 3 {
			askFails(t, j, api.ErrWait)
		}
		done(t, j.Tick(1))
	}
	gives(t, j, "ef") // two were needed
	for range 6 {
		askFails(t, j, api.ErrWait)
		done(t, j.Tick(1))
	}
	askIs(t, j, "b", 0, 3)
}

func TestAskOfAJobThatIsOver(t *testing.T) {
	list := files("a=abcd")
	j := begins(t, stored(t), dir, manifest(t, 5, list), limits())
	gives(t, j, "abcd")
	askFails(t, j, api.ErrOver)
	for _, lose := range []func(j *Job, d *disk.Disk){
		func(j *Job, d *disk.Disk) { j.Miss() },
		func(j *Job, d *disk.Disk) { j.Put("", 0) },
		func(j *Job, d *disk.Disk) { d.Arm(0); j.Put("abcd", crc("abcd")) },
	} {
		d, lim := stored(t), limits()
		lim.Tries = 1
		j := begins(t, d, dir, manifest(t, 5, list), lim)
		askIs(t, j, "a", 0, 4)
		lose(j, d)
		is(t, "phase", j.State().Phase, api.FetchFailed)
		before := j.State()
		for range 2 {
			askFails(t, j, api.ErrOver)
			putIs(t, j, "abcd", api.ErrOver)
			is(t, "Miss", j.Miss(), api.ErrOver)
			done(t, j.Tick(100))
		}
		is(t, "behind it", j.State(), before)
	}
}

// P11.6

func TestWrongBlocks(t *testing.T) {
	d := stored(t)
	lim := limits()
	lim.Tries, lim.Burst = 64, 65536
	j := begins(t, d, dir, manifest(t, 5, ours()), lim)
	for _, c := range []struct {
		data string
		sum  int
	}{
		{"", 0}, {"abc", crc("abc")}, {"abcde", crc("abcde")}, {"abcd", crc("abcx")}, {"abcx", crc("abcd")}, {"abcd", 0}, {"abcd", -1}, {"abcd", leastInt}, {"abcd", mostInt},
		{"abcd", crc("abcd") + 1<<32}, {"abcd", crc("abcd") - 1<<32}, {"abcd", crc("abcd") + 1}, {strings.Repeat("x", 100000), 0}, {"\x00\x00\x00\x00", 0},
	} {
		askIs(t, j, "0_0_0.data", 0, 4)
		calm(t, "a wrong block", d, func() { is(t, "Put", j.Put(c.data, c.sum), api.ErrBlock) })
		goesOn(t, "behind it", j, 0, 0, 0)
		calm(t, "none is asked for", d, func() {
			putIs(t, j, "abcd", api.ErrWait)
			is(t, "Miss", j.Miss(), api.ErrWait)
		})
		done(t, j.Tick(8))
	}
	gives(t, j, "abcd")
	goesOn(t, "behind the right one", j, 0, 4, 4)
}

func TestNothingAskedFor(t *testing.T) {
	d := stored(t)
	j := begun(t, d)
	for range 3 {
		calm(t, "nothing asked for", d, func() {
			putIs(t, j, "abcd", api.ErrWait)
			putIs(t, j, "", api.ErrWait)
			is(t, "Miss", j.Miss(), api.ErrWait)
		})
	}
	gives(t, j, "abcd")
	putIs(t, j, "efgh", api.ErrWait)
	is(t, "Miss", j.Miss(), api.ErrWait)
	goesOn(t, "no failure", j, 0, 4, 4)
	done(t, j.Tick(1))
	gives(t, j, "efgh")
}

// putting is a Put behind some blocks.
func putting(t *testing.T, list []api.Pair, lim api.Limits, data string, ahead ...string) func() (*disk.Disk, func() api.Errno) {
	return func() (*disk.Disk, func() api.Errno) {
		d := stored(t)
		j := begins(t, d, dir, manifest(t, 5, list), lim)
		for _, block := range ahead {
			gives(t, j, block)
		}
		if w, e := j.Ask(); e != api.OK || w.Size != len(data) {
			t.Fatalf("Ask = %+v, %d", w, e)
		}
		return d, func() api.Errno { return j.Put(data, crc(data)) }
	}
}

func TestActsOfPut(t *testing.T) {
	lim := ample(4)
	actsAre(t, "the first block", putting(t, ours(), lim, "abcd"), api.OK, laid("0_0_0.data", "abcd", note(2, 0, 4, crc("abcd"))))
	actsAre(t, "the second", putting(t, ours(), lim, "efgh", "abcd"), api.OK, laid("0_0_0.data", "efgh", note(2, 0, 8, crc("abcdefgh"))))
	actsAre(t, "the last of a file", putting(t, ours(), lim, "ij", "abcd", "efgh"), api.OK,
		laid("0_0_0.data", "ij", note(2, 0, 10, crc("abcdefghij"))), noted(note(3, 0, 0, 0)))
	actsAre(t, "the last of all", putting(t, ours(), lim, "xyz", "abcd", "efgh", "ij"), api.OK,
		laid("meta", "xyz", note(2, 2, 3, crc("xyz"))), noted(note(3, 2, 0, 0)), ended())
	actsAre(t, "a forged block", putting(t, ours(), lim, "efgX", "abcd"), api.OK, laid("0_0_0.data", "efgX", note(2, 0, 8, crc("abcdefgX"))))
	actsAre(t, "the last of a forged file", putting(t, ours(), lim, "ij", "abcX", "efgh"), api.ErrWhole,
		laid("0_0_0.data", "ij", note(2, 0, 10, crc("abcXefghij"))), emptied("0_0_0.data", 0))
	actsAre(t, "the last of a forged last file", putting(t, ours(), lim, "xyy", "abcd", "efgh", "ij"), api.ErrWhole,
		laid("meta", "xyy", note(2, 2, 3, crc("xyy"))), emptied("meta", 2))
	actsAre(t, "the first row, an empty one behind", putting(t, files("a=x", "b="), lim, "x"), api.OK,
		laid("a", "x", note(2, 0, 1, crc("x"))), noted(note(3, 0, 0, 0)), ended())
	actsAre(t, "the last row, an empty one ahead", putting(t, files("a=", "b=x"), lim, "x"), api.OK,
		laid("b", "x", note(2, 1, 1, crc("x"))), noted(note(3, 1, 0, 0)), ended())
}

// P11.7

func TestDiskFails(t *testing.T) {
	for _, c := range []struct {
		ahead         []string
		data          string
		acts          int
		file, at, got int
	}{
		{nil, "abcd", 4, 0, 0, 0}, {[]string{"abcd"}, "efgh", 4, 0, 4, 4}, {[]string{"abcd", "efgh"}, "ij", 6, 0, 8, 8}, {[]string{"abcd", "efgh"}, "iX", 8, 0, 8, 8}, {[]string{"abcd", "efgh", "ij"}, "xyz", 10, 2, 0, 10},
	} {
		for k := range c.acts {
			d := stored(t)
			j := begins(t, d, dir, manifest(t, 5, ours()), ample(4))
			for _, block := range c.ahead {
				gives(t, j, block)
			}
			askIs(t, j, ours()[c.file].Key, c.at, len(c.data))
			done(t, d.Arm(k))
			putIs(t, j, c.data, api.ErrDown)
			for range 2 {
				stateIs(t, "a disk that went down", j, 5, api.FetchFailed, c.file, c.at, c.got, api.ErrDown)
				askFails(t, j, api.ErrOver)
				putIs(t, j, c.data, api.ErrOver)
				is(t, "Miss", j.Miss(), api.ErrOver)
				is(t, "Tick", j.Tick(1), api.OK)
			}
		}
	}
}

// What a full disk refuses: the block's bytes, the block note, the file note, the whole note.
func TestDiskIsFull(t *testing.T) {
	list := files("a=abcd", "b=xyz")
	text := manifest(t, 5, list)
	first := len(text) + len(beginNote(5, text))
	block, file := len(note(2, 0, 4, crc("abcd"))), len(note(3, 0, 0, 0))
	for _, c := range []struct{ room, acts, puts int }{
		{0, 0, 0}, {3, 0, 0}, {4, 2, 0}, {4 + block - 1, 2, 0}, {4 + block, 4, 0}, {4 + block + file - 1, 4, 0}, {4 + block + file, 0, 1}, {4 + block + file + 3 + block + file, 6, 1}, {4 + block + file + 3 + block + 2*file, 10, 2},
	} {
		d := fresh(t, first+c.room)
		done(t, d.Mkdir("store"))
		j := begins(t, d, dir, text, limits())
		for i := range c.puts {
			if i == 0 {
				gives(t, j, "abcd")
			} else {
				gives(t, j, "xyz")
			}
		}
		if c.puts == 2 {
			stateIs(t, "room enough", j, 5, api.FetchDone, 2, 0, 7, api.OK)
			continue
		}
		before, acts := j.State(), d.Acts()
		w, e := j.Ask()
		done(t, e)
		putIs(t, j, right(list, w), api.ErrFull)
		is(t, "acts", d.Acts()-acts, c.acts)
		before.Phase, before.Why = api.FetchFailed, api.ErrFull
		is(t, "State", j.State(), before)
	}
}

// P11.8

func TestClosedByAllSums(t *testing.T) {
	for what, r := range map[string]api.FileRow{
		"another MD5": {Name: "a", Size: 3, Crc: crc("xyz"), Md5: md("xyy")}, "another CRC": {Name: "a", Size: 3, Crc: crc("xyy"), Md5: md("xyz")},
	} {
		d := stored(t)
		j := begins(t, d, dir, manifestOf(t, 5, []api.FileRow{r}), limits())
		askIs(t, j, "a", 0, 3)
		putIs(t, j, "xyz", api.ErrWhole)
		goesOn(t, what, j, 0, 0, 0)
		is(t, what, bytesOf(t, d, dir+"/a"), "")
	}
}

// A file that began anew is asked for from its first byte on, and its sums begin with nothing.
func TestBegunAnew(t *testing.T) {
	d := stored(t)
	lim := ample(4)
	j := begins(t, d, dir, manifest(t, 5, ours()), lim)
	gives(t, j, "abcX")
	gives(t, j, "efgh")
	askIs(t, j, "0_0_0.data", 8, 2)
	putIs(t, j, "ij", api.ErrWhole)
	done(t, j.Tick(1))
	gives(t, j, "abcd")
	gives(t, j, "efgh")
	gives(t, j, "ij")
	goesOn(t, "whole now", j, 2, 0, 10)
	want := beginNote(5, manifest(t, 5, ours())) + note(2, 0, 4, crc("abcX")) + note(2, 0, 8, crc("abcXefgh")) + note(2, 0, 10, crc("abcXefghij")) + note(2, 0, 0, 0) +
		note(2, 0, 4, crc("abcd")) + note(2, 0, 8, crc("abcdefgh")) + note(2, 0, 10, crc("abcdefghij")) + note(3, 0, 0, 0)
	is(t, "the journal", bytesOf(t, d, dir+"/journal"), want)
}

// P11.9: the acts stand in TestActsOfPut, TestAnewAndEnded and TestActsOfTakingUp.

func TestEnded(t *testing.T) {
	d := stored(t)
	j := begins(t, d, dir, manifest(t, 5, ours()), ample(4))
	is(t, "ticks", feed(t, j, ours()), 0)
	stateIs(t, "at the end", j, 5, api.FetchDone, 3, 0, 13, api.OK)
	is(t, "a journal", has(d, dir+"/journal"), false)
	isWhole(t, "at the end", d, dir, manifest(t, 5, ours()), ours())
}

// P11.10

// wrongs are the ways in which a try is in vain, each with the cause.
var wrongs = map[api.Errno]func(t *testing.T, j *Job){
	api.ErrBlock: func(t *testing.T, j *Job) { putIs(t, j, "", api.ErrBlock) },
	api.ErrWhole: func(t *testing.T, j *Job) { putIs(t, j, "X", api.ErrWhole) },
	api.ErrLost:  func(t *testing.T, j *Job) { is(t, "Miss", j.Miss(), api.OK) },
}

// The waits are Base, doubled each time, up to Most; behind the last try the job has failed.
func TestTries(t *testing.T) {
	for why, wrong := range wrongs {
		for _, tries := range []int{1, 2, 3, 6, 64} {
			lim := ample(4)
			lim.Tries, lim.Base, lim.Most = tries, 3, 20
			j := begins(t, stored(t), dir, manifest(t, 5, files("a=x", "b=y")), lim)
			wait := 3
			for range tries - 1 {
				askIs(t, j, "a", 0, 1)
				wrong(t, j)
				goesOn(t, "a try is left", j, 0, 0, 0)
				for range wait {
					askFails(t, j, api.ErrWait)
					done(t, j.Tick(1))
				}
				wait = min(2*wait, 20)
			}
			askIs(t, j, "a", 0, 1)
			wrong(t, j)
			stateIs(t, "no try is left", j, 5, api.FetchFailed, 0, 0, 0, why)
			askFails(t, j, api.ErrOver)
		}
	}
}

// Failures of all kinds count together; the last one is the cause.
func TestTriesOfAllKinds(t *testing.T) {
	for why, last := range wrongs {
		lim := ample(4)
		lim.Tries = 4
		j := begins(t, stored(t), dir, manifest(t, 5, files("a=x")), lim)
		for _, wrong := range wrongs {
			askIs(t, j, "a", 0, 1)
			wrong(t, j)
			goesOn(t, "a try is left", j, 0, 0, 0)
			done(t, j.Tick(1))
		}
		askIs(t, j, "a", 0, 1)
		last(t, j)
		stateIs(t, "no try is left", j, 5, api.FetchFailed, 0, 0, 0, why)
	}
}

// A block that came right gives no try back; another row has all of its own.
func TestTriesOfARow(t *testing.T) {
	lim := ample(2)
	lim.Tries = 3
	list := files("a=abcdef", "b=", "c=xy")
	j := begins(t, stored(t), dir, manifest(t, 5, list), lim)
	miss := func() {
		_, e := j.Ask()
		done(t, e, j.Miss(), j.Tick(1))
	}
	miss()
	gives(t, j, "ab")
	miss()
	gives(t, j, "cd")
	gives(t, j, "ef")
	goesOn(t, "the next row", j, 2, 0, 6)
	miss()
	miss()
	goesOn(t, "two of its tries", j, 2, 0, 6)
	miss()
	stateIs(t, "no try is left", j, 5, api.FetchFailed, 2, 0, 6, api.ErrLost)

	j = begins(t, stored(t), dir, manifest(t, 5, list), lim)
	miss()
	gives(t, j, "ab")
	miss()
	gives(t, j, "cd")
	miss()
	stateIs(t, "three tries of one row", j, 5, api.FetchFailed, 0, 4, 4, api.ErrLost)
}

// The waits begin with Base again for another row.
func TestWaitsOfARow(t *testing.T) {
	lim := ample(4)
	lim.Base, lim.Most = 2, 1024
	j := begins(t, stored(t), dir, manifest(t, 5, files("a=x", "b=y")), lim)
	for _, name := range []string{"a", "b"} {
		for wait := 2; wait <= 32; wait *= 2 {
			askIs(t, j, name, 0, 1)
			is(t, "Miss", j.Miss(), api.OK)
			done(t, j.Tick(wait-1))
			askFails(t, j, api.ErrWait)
			done(t, j.Tick(1))
		}
		if name == "a" {
			gives(t, j, "x")
		}
	}
}

// The time that counts is that of the failure, not of the asking.
func TestWaitBeginsAtTheFailure(t *testing.T) {
	lim := ample(4)
	lim.Base, lim.Most = 5, 5
	j := begins(t, stored(t), dir, manifest(t, 5, files("a=x")), lim)
	done(t, j.Tick(1000))
	askIs(t, j, "a", 0, 1)
	done(t, j.Tick(1000))
	is(t, "Miss", j.Miss(), api.OK)
	done(t, j.Tick(4))
	askFails(t, j, api.ErrWait)
	done(t, j.Tick(1))
	askIs(t, j, "a", 0, 1)
}

// A forged file's bytes are gone even if there is no try left.
func TestForgedAtTheLastTry(t *testing.T) {
	d := stored(t)
	lim := ample(4)
	lim.Tries = 1
	j := begins(t, d, dir, manifest(t, 5, files("a=abcdef", "b=y")), lim)
	gives(t, j, "abcX")
	askIs(t, j, "a", 4, 2)
	putIs(t, j, "ef", api.ErrWhole)
	stateIs(t, "no try is left", j, 5, api.FetchFailed, 0, 0, 0, api.ErrWhole)
	is(t, "the file", bytesOf(t, d, dir+"/a"), "")
	goesOn(t, "taken up", begins(t, d, dir, manifest(t, 5, files("a=abcdef", "b=y")), lim), 0, 0, 0)
}

func TestTokensAreSpent(t *testing.T) {
	for _, wrong := range wrongs {
		lim := api.Limits{Block: 1, Rate: 1, Per: 7, Burst: 1, Tries: 9, Base: 1, Most: 1, Quota: 100}
		j := begins(t, stored(t), dir, manifest(t, 5, files("a=x")), lim)
		askIs(t, j, "a", 0, 1)
		wrong(t, j)
		for range 7 {
			askFails(t, j, api.ErrWait)
			done(t, j.Tick(1))
		}
		askIs(t, j, "a", 0, 1)
	}
}

func TestMissLeavesTheDisk(t *testing.T) {
	d := stored(t)
	j := begun(t, d)
	gives(t, j, "abcd")
	askIs(t, j, "0_0_0.data", 4, 4)
	down(t, d)
	calm(t, "Miss", d, func() { is(t, "Miss", j.Miss(), api.OK) })
	goesOn(t, "Miss", j, 0, 4, 4)
	is(t, "Miss again", j.Miss(), api.ErrWait)
}

// P11.11

func TestTick(t *testing.T) {
	d := stored(t)
	j := begun(t, d)
	for _, n := range []int{leastInt, -longest, -1, longest + 1, mostInt} {
		is(t, "Tick", j.Tick(n), api.ErrArg)
	}
	askIs(t, j, "0_0_0.data", 0, 4)
	is(t, "Miss", j.Miss(), api.OK)
	for _, n := range []int{leastInt, -1, longest + 1, mostInt} {
		is(t, "Tick", j.Tick(n), api.ErrArg)
	}
	is(t, "Tick", j.Tick(0), api.OK)
	askFails(t, j, api.ErrWait)
	calm(t, "Tick", d, func() { is(t, "Tick", j.Tick(1), api.OK) })
	askIs(t, j, "0_0_0.data", 0, 4)
	is(t, "Tick", j.Tick(longest), api.OK)
}

// Ticks fill the bucket, too.
func TestTickFills(t *testing.T) {
	lim := limits()
	lim.Burst, lim.Rate = 4, 1
	j := begins(t, stored(t), dir, manifest(t, 5, ours()), lim)
	gives(t, j, "abcd")
	done(t, j.Tick(3))
	askFails(t, j, api.ErrWait)
	is(t, "Tick", j.Tick(-1), api.ErrArg)
	askFails(t, j, api.ErrWait)
	done(t, j.Tick(1))
	askIs(t, j, "0_0_0.data", 4, 4)
}

// The time stays at MaxNumber: from there on no later time comes.
func TestTimeStays(t *testing.T) {
	at := func(short int) *Job { // so many ticks ahead of MaxNumber
		lim := ample(4)
		lim.Base, lim.Most = 3, 3
		j := begins(t, stored(t), dir, manifest(t, 5, files("a=x")), lim)
		for range latest/longest - 1 {
			done(t, j.Tick(longest))
		}
		done(t, j.Tick(longest-short))
		askIs(t, j, "a", 0, 1)
		is(t, "Miss", j.Miss(), api.OK)
		return j
	}
	for short, comes := range map[int]bool{0: false, 1: false, 2: false, 3: true, 4: true} {
		j := at(short)
		done(t, j.Tick(2))
		askFails(t, j, api.ErrWait)
		for range 3 {
			done(t, j.Tick(longest))
		}
		if comes {
			askIs(t, j, "a", 0, 1)
		} else {
			askFails(t, j, api.ErrWait)
		}
	}
}

func TestTickOfAJobThatIsOver(t *testing.T) {
	j := begins(t, stored(t), dir, manifest(t, 5, nil), limits())
	for n, want := range map[int]api.Errno{-1: api.ErrArg, 0: api.OK, 1: api.OK, longest: api.OK, longest + 1: api.ErrArg} {
		is(t, "Tick", j.Tick(n), want)
	}
	stateIs(t, "done", j, 5, api.FetchDone, 0, 0, 0, api.OK)
}
