package fetch

import (
	"testing"

	"granary/api"
	"granary/disk"
	"granary/paper"
)

// The chapter's examples.

func TestExample1(t *testing.T) {
	text := manifest(t, 5, ours())
	actsAre(t, "Begin", func() (*disk.Disk, func() api.Errno) {
		d := stored(t)
		return d, func() api.Errno {
			_, e := Begin(d, dir, text, limits())
			return e
		}
	}, api.OK, []step{
		{do: "mkdir", path: dir},
		{do: "create", path: dir + "/manifest"}, {do: "append", path: dir + "/manifest", data: text}, {do: "sync", path: dir + "/manifest"},
		{do: "create", path: dir + "/journal"}, {do: "append", path: dir + "/journal", data: beginNote(5, text)}, {do: "sync", path: dir + "/journal"},
		{do: "create", path: dir + "/0_0_0.data"}, {do: "create", path: dir + "/0_0_0.index"}, {do: "create", path: dir + "/meta"},
		{do: "syncdir", path: dir}, {do: "syncdir", path: "store"},
	})
	d := stored(t)
	before := d.Acts()
	goesOn(t, "at first", begun(t, d), 0, 0, 0)
	is(t, "acts", d.Acts()-before, 12)
}

// second is the job of example 2, at its end.
func second(t *testing.T, d *disk.Disk) *Job {
	t.Helper()
	j := begun(t, d)
	askIs(t, j, "0_0_0.data", 0, 4)
	askIs(t, j, "0_0_0.data", 0, 4)
	putIs(t, j, "abcd", api.OK)
	goesOn(t, "behind one block", j, 0, 4, 4)
	askIs(t, j, "0_0_0.data", 4, 4)
	putIs(t, j, "efgh", api.OK)
	askFails(t, j, api.ErrWait)
	done(t, j.Tick(1))
	askIs(t, j, "0_0_0.data", 8, 2)
	putIs(t, j, "ij", api.OK)
	goesOn(t, "behind one file", j, 2, 0, 10)
	return j
}

func TestExample2(t *testing.T) {
	d := stored(t)
	second(t, d)
	want := beginNote(5, manifest(t, 5, ours())) + note(2, 0, 4, crc("abcd")) + note(2, 0, 8, crc("abcdefgh")) + note(2, 0, 10, crc("abcdefghij")) + note(3, 0, 0, 0)
	is(t, "the journal", bytesOf(t, d, dir+"/journal"), want)
	notes, _ := paper.ParseNotes(want)
	is(t, "its notes", len(notes), 5)
}

func TestExample3(t *testing.T) {
	d := stored(t)
	j := second(t, d)
	askFails(t, j, api.ErrWait)
	done(t, j.Tick(1))
	askIs(t, j, "meta", 0, 3)
	putIs(t, j, "xyz", api.OK)
	stateIs(t, "at the end", j, 5, api.FetchDone, 3, 0, 13, api.OK)
	askFails(t, j, api.ErrOver)
	putIs(t, j, "", api.ErrOver)
	is(t, "Miss", j.Miss(), api.ErrOver)
	isWhole(t, "the directory", d, dir, manifest(t, 5, ours()), ours())
}

func TestExample4(t *testing.T) {
	j := begun(t, stored(t))
	putIs(t, j, "abcd", api.ErrWait)
	is(t, "Miss", j.Miss(), api.ErrWait)
}

func TestExample5(t *testing.T) {
	j := begun(t, stored(t))
	askIs(t, j, "0_0_0.data", 0, 4)
	putIs(t, j, "abc", api.ErrBlock)
	askFails(t, j, api.ErrWait)
	done(t, j.Tick(1))
	askIs(t, j, "0_0_0.data", 0, 4)
	is(t, "Put", j.Put("abcx", crc("abcd")), api.ErrBlock)
	stateIs(t, "at the end", j, 5, api.FetchFailed, 0, 0, 0, api.ErrBlock)
}

func TestExample6(t *testing.T) {
	j := begun(t, stored(t))
	gives(t, j, "abcX")
	gives(t, j, "efgh")
	done(t, j.Tick(1))
	askIs(t, j, "0_0_0.data", 8, 2)
	putIs(t, j, "ij", api.ErrWhole)
	goesOn(t, "anew", j, 0, 0, 0)
}

func TestExample7(t *testing.T) {
	d := stored(t)
	gives(t, begun(t, d), "abcd")
	d.Crash(0, 0)
	j := begun(t, d)
	goesOn(t, "behind a crash", j, 0, 4, 4)
	askIs(t, j, "0_0_0.data", 4, 4)
}

func TestExample8(t *testing.T) {
	for _, c := range []struct{ acts, keep, torn, size, at int }{{1, 1, 0, 8, 4}, {3, 1, 0, 8, 8}, {3, 0, 5, 8, 4}} {
		d := stored(t)
		j := begun(t, d)
		gives(t, j, "abcd")
		askIs(t, j, "0_0_0.data", 4, 4)
		done(t, d.Arm(c.acts))
		putIs(t, j, "efgh", api.ErrDown)
		stateIs(t, "behind it", j, 5, api.FetchFailed, 0, 4, 4, api.ErrDown)
		d.Crash(c.keep, c.torn)
		is(t, "bytes that survived", len(bytesOf(t, d, dir+"/0_0_0.data")), c.size)
		goesOn(t, "taken up", begun(t, d), 0, c.at, c.at)
		is(t, "bytes then", len(bytesOf(t, d, dir+"/0_0_0.data")), c.at)
		text := bytesOf(t, d, dir+"/journal")
		_, good := paper.ParseNotes(text)
		is(t, "the journal's good bytes", good, len(text))
	}
}

func TestExample9(t *testing.T) {
	d := stored(t)
	gives(t, begun(t, d), "abcd")
	text := manifest(t, 6, ours())
	j := begins(t, d, dir, text, limits())
	stateIs(t, "anew", j, 6, api.FetchRunning, 0, 0, 0, api.OK)
	same(t, "the directory", under(d, dir), []string{"0_0_0.data=", "0_0_0.index=", "journal=" + beginNote(6, text), "manifest=" + text, "meta="})
}

func TestExample10(t *testing.T) {
	d := stored(t)
	text := manifest(t, 5, ours())
	low, thin := limits(), limits()
	low.Quota, thin.Burst = 12, 3
	refuses(t, "Quota 12", d, dir, text, low, api.ErrQuota)
	refuses(t, "Burst 3", d, dir, text, thin, api.ErrArg)
	refuses(t, "no manifest", d, dir, "x", limits(), api.ErrForm)
	refuses(t, "no store", fresh(t, 1000), dir, text, limits(), api.ErrNone)
}

func TestReadme(t *testing.T) {
	d := stored(t)
	text := manifest(t, 5, ours())
	j := begins(t, d, "store/fetch-5", text, limits())
	askIs(t, j, "0_0_0.data", 0, 4)
	putIs(t, j, "abcd", api.OK)
	askIs(t, j, "0_0_0.data", 4, 4)
	is(t, "Miss", j.Miss(), api.OK)
	askFails(t, j, api.ErrWait)
	is(t, "Tick", j.Tick(1), api.OK)
	d.Crash(0, 0)
	j = begins(t, d, "store/fetch-5", text, limits())
	stateIs(t, "taken up", j, 5, api.FetchRunning, 0, 4, 4, api.OK)
	is(t, "Sweep", Sweep(d, "store/fetch-5"), api.OK)
	is(t, "it is there", has(d, "store/fetch-5"), false)
}
