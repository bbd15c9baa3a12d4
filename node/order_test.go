package node

import (
	"fmt"
	"slices"
	"testing"

	"granary/api"
	"granary/disk"
	"granary/engine"
	"granary/frame"
)

// P14.6

func TestFetchOfNoVersion(t *testing.T) {
	b := with(t, east(), 1, api.Pointer{Cur: 2, Prev: 1, Epoch: 5, Seq: 1}, 1, 2)
	b.begun(t, order(7, 3))
	ahead := b.Look()
	put(t, b.d, "store/fetch-9/x", "not swept")
	for _, version := range []int{0, last + 1, most} {
		for _, epoch := range []int{0, 4, 5, 7, 8, most} { // ahead of a stale epoch, too
			calm(t, "no version", b.d, func() {
				b.answers(t, "no version", order(epoch, version), ended(epoch, version, api.ErrVersion))
			})
		}
	}
	is(t, "the fetch", b.Look().Fetch, ahead.Fetch)
}

func TestFetchIsStale(t *testing.T) {
	for _, x := range []struct {
		fence [2]int // its epoch and seq
		epoch int
		stale bool
	}{
		{[2]int{5, 1}, 4, true}, {[2]int{5, 1}, 0, true}, {[2]int{5, 1}, 5, false}, {[2]int{5, 1}, 6, false}, {[2]int{5, 1}, most, false},
		{[2]int{5, 2}, 4, true}, {[2]int{5, 2}, 5, true}, {[2]int{5, 2}, 6, false},
		{[2]int{5, 0}, 4, true}, {[2]int{5, 0}, 5, false},
		{[2]int{5, most}, 5, true}, {[2]int{5, most}, 6, false},
		{[2]int{most, 1}, most, false}, {[2]int{most, 2}, most, true}, {[2]int{most, 1}, most - 1, true},
	} {
		for _, version := range []int{3, 2, last} { // 2: it has that
			b := with(t, east(), 1, api.Pointer{Cur: 2, Prev: 1, Epoch: x.fence[0], Seq: x.fence[1]}, 1, 2)
			what := fmt.Sprintf("the fence %v, epoch %d, version %d", x.fence, x.epoch, version)
			put(t, b.d, "store/fetch-9/x", "x")
			switch {
			case x.stale:
				calm(t, what, b.d, func() {
					b.answers(t, what, order(x.epoch, version), ended(x.epoch, version, api.ErrStale))
				})
				b.fetchIs(t, what, api.FetchState{})
			case version == 2:
				calm(t, what, b.d, func() { b.answers(t, what, order(x.epoch, version), ended(x.epoch, version, api.OK)) })
				b.fetchIs(t, what, api.FetchState{})
			default:
				b.takes(t, what, order(x.epoch, version))
				b.fetchIs(t, what, after(version))
				b.partialIs(t, what)
			}
		}
	}
}

// A fetch of a later epoch lets none of an earlier one come, of whatever version; one of the same epoch may.
func TestFetchOfALaterEpoch(t *testing.T) {
	for _, version := range []int{1, 2, 3, 4} { // it has 1 and 2, and 3 is being fetched
		b := with(t, east(), 1, ones(2, 1), 1, 2)
		b.begun(t, order(7, 3))
		ahead := b.Look()
		for _, epoch := range []int{1, 2, 6} {
			calm(t, "an earlier epoch", b.d, func() {
				b.answers(t, "an earlier epoch", order(epoch, version), ended(epoch, version, api.ErrStale))
			})
		}
		same(t, "as it was", b.Look(), ahead)
		frames := b.does(t, order(7, version))
		if version < 3 {
			b.hears(t, "the same epoch", frames, order(7, version), ended(7, version, api.OK))
			same(t, "the fetch goes on", b.Look(), ahead)
			continue
		}
		silent(t, "the same epoch", frames)
		is(t, "Fetch", b.Look().Fetch.Version, version)
		is(t, "Epoch", b.fetch.last.Epoch, 7)
	}
}

// What the engine has is answered at once, and a fetch of another version goes on as it was.
func TestFetchOfWhatIsThere(t *testing.T) {
	b := with(t, east(), 1, ones(2, 1), 1, 2, 4)
	b.begun(t, order(7, 3))
	want := b.wants(t)
	put(t, b.d, "store/fetch-9/x", "not swept")
	ahead := b.Look()
	for _, version := range []int{1, 2, 4} {
		calm(t, "it has that", b.d, func() { b.answers(t, "it has that", order(9, version), ended(9, version, api.OK)) })
	}
	same(t, "as it was", b.Look(), ahead)
	b.wantIs(t, "as it was", want, api.OK)
	b.answers(t, "its epoch is as it was", order(6, 3), ended(6, 3, api.ErrStale))
	frames, _ := b.pulls(t, stock(t, east(), 1, 3))
	b.hears(t, "MsgFetched", frames, order(7, 3), ended(7, 3, api.OK))
}

// A version that the engine has and a fetch of it: the former is told first. (No calls lead there: it is laid by hand.)
func TestFetchOfWhatIsThereAndFetched(t *testing.T) {
	b := with(t, east(), 1, ones(2, 1), 1, 2)
	b.Node.memory.fetch = b.Node.begin(order(3, 2))
	b.answers(t, "both", order(4, 2), ended(4, 2, api.OK))
	is(t, "not taken over", b.fetch.last.Epoch, 3)
	b.answers(t, "stale, and both", order(2, 2), ended(2, 2, api.ErrStale))
}

// A fetch of the version is taken over: at each place that it may be at, it goes on as it was, and ends as the last one asked.
func TestFetchIsTakenOver(t *testing.T) {
	files := stock(t, east(), 1, 3)
	for _, x := range []struct {
		what  string
		ready func(b *bench)
	}{
		{"after the manifest", func(b *bench) {}},
		{"the manifest is asked for", func(b *bench) { b.wants(t) }},
		{"behind a failure", func(b *bench) { b.wants(t); silent(t, "lost", b.Feed(api.ErrLost, "", 0)) }},
		{"a job", func(b *bench) { b.fed(t, files) }},
		{"a block is asked for", func(b *bench) { b.fed(t, files); b.wants(t) }},
		{"half", func(b *bench) { b.fed(t, files); b.fed(t, files); b.fed(t, files) }},
	} {
		for _, taken := range []api.Msg{
			{Kind: api.MsgFetch, From: 66, Id: 9, Epoch: 8, Version: 3},
			{Kind: api.MsgFetch, From: 64, Id: 0, Epoch: 7, Version: 3},
			{Kind: api.MsgFetch, From: 65535, Id: most, Epoch: most, Version: 3},
		} {
			b := with(t, east(), 1, ones(2, 1), 1, 2)
			b.takes(t, "MsgFetch", order(7, 3))
			x.ready(b)
			put(t, b.d, "store/fetch-9/x", "not swept")
			ahead, f := b.Look(), *b.fetch
			calm(t, x.what, b.d, func() { b.takes(t, x.what, taken) })
			same(t, x.what, b.Look(), ahead)
			is(t, x.what+": asked", b.fetch.asked, f.asked)
			is(t, x.what+": next", b.fetch.next, f.next)
			if b.fetch.job != f.job || b.fetch.budget != f.budget {
				t.Errorf("%s: it began anew", x.what)
			}
			if taken.Epoch > 7 {
				b.answers(t, x.what+": stale", order(taken.Epoch-1, 3), ended(taken.Epoch-1, 3, api.ErrStale))
			}
			frames, _ := b.pulls(t, files)
			b.hears(t, x.what, frames, taken, ended(taken.Epoch, 3, api.OK))
		}
	}
}

// Another version takes the place of a fetch, of which nothing is told; its directory is swept, as all others are.
func TestFetchTakesThePlace(t *testing.T) {
	files := stock(t, east(), 1, 3)
	for _, x := range []struct {
		what  string
		ready func(b *bench)
	}{
		{"after the manifest", func(b *bench) { b.wants(t) }},
		{"behind a failure", func(b *bench) { b.wants(t); silent(t, "lost", b.Feed(api.ErrLost, "", 0)) }},
		{"a job", func(b *bench) { b.fed(t, files); b.fed(t, files); b.wants(t) }},
	} {
		for _, epoch := range []int{7, 8} {
			b := with(t, east(), 1, ones(2, 1), 1, 2)
			b.takes(t, "MsgFetch", order(7, 3))
			x.ready(b)
			m := api.Msg{Kind: api.MsgFetch, From: 66, Id: 1, Epoch: epoch, Version: 4}
			b.takes(t, x.what, m)
			b.fetchIs(t, x.what, after(4))
			b.partialIs(t, x.what)
			silent(t, x.what+": nothing is asked for", b.feeds(stock(t, east(), 1, 4)["manifest"]))
			b.wantsManifest(t, x.what+": it does not wait", 4)
			is(t, x.what+": tries", b.fetch.budget.Left(api.Item{Node: 1, File: 4}), 3)
			frames, _ := b.pulls(t, stock(t, east(), 1, 4))
			b.hears(t, x.what, frames, m, ended(epoch, 4, api.OK))
			b.stateIs(t, x.what, 2, 1, 1, 1, 1, 2, 4)
		}
	}
}

// deed is an act, for telling which are done.
type deed struct{ do, path, more string }

func (s deed) on(d *disk.Disk) api.Errno {
	switch s.do {
	case "remove":
		return d.Remove(s.path)
	case "rename":
		return d.Rename(s.path, s.more)
	case "syncdir":
		return d.SyncDir(s.path)
	}
	return api.ErrArg
}

// sweeping are the acts by which a partial directory with these names is swept.
func sweeping(version int, inside ...string) []deed {
	dir := engine.PartialDir(version)
	var list []deed
	for _, name := range inside {
		list = append(list, deed{"remove", dir + "/" + name, ""})
	}
	return append(list, deed{"remove", dir, ""}, deed{"syncdir", "store", ""})
}

// discarding are the acts by which a version with these files is taken away.
func discarding(version int, files map[string]string) []deed {
	trash := fmt.Sprint("store/trash-", version)
	list := []deed{{"rename", engine.Dir(version), trash}, {"syncdir", "store", ""}}
	var names []string
	for name := range files {
		names = append(names, name)
	}
	slices.Sort(names)
	for _, name := range names {
		list = append(list, deed{"remove", trash + "/" + name, ""})
	}
	return append(list, deed{"remove", trash, ""}, deed{"syncdir", "store", ""})
}

// crowded is a node with old versions, and with partial directories of versions whose names do not rise as their numbers do.
func crowded(t *testing.T) *bench {
	t.Helper()
	b := with(t, small(1), 0, ones(5, 4), 1, 2, 4, 5, 6)
	for _, path := range []string{"fetch-10/a", "fetch-9/a", "fetch-9/b/c", "fetch-2/a", "fetch-3/mine", "fetch-100/", "other/x"} {
		put(t, b.d, "store/"+path, "some")
	}
	put(t, b.d, "store/fetch-8", "a file is none")
	return b
}

// R6: the other partial directories are swept, rising by their numbers, then old versions go; nothing else is done.
func TestFetchMakesRoom(t *testing.T) {
	acts := slices.Concat(
		sweeping(2, "a"), sweeping(9, "a", "b/c", "b"), sweeping(10, "a"), sweeping(100),
		discarding(1, stock(t, small(1), 0, 1)), discarding(2, stock(t, small(1), 0, 2)))
	for k := range len(acts) + 1 {
		b, twin := crowded(t), crowded(t).d
		ahead := b.d.Acts()
		done(t, b.d.Arm(k))
		silent(t, "MsgFetch", b.does(t, order(2, 3)))
		is(t, "acts", b.d.Acts()-ahead, k)
		for i, s := range acts[:k] {
			if e := s.on(twin); e != api.OK {
				t.Fatalf("the act %d, %+v, is refused: %d", i, s, e)
			}
		}
		if b.d.Pending() != twin.Pending() || !slices.Equal(b.d.Dump(), twin.Dump()) {
			t.Fatalf("behind %d acts: %+v\nwant %+v", k, b.d.Dump(), twin.Dump())
		}
		is(t, "Up", b.Up(), k == len(acts))
	}
	b := crowded(t)
	b.takes(t, "MsgFetch", order(2, 3))
	b.stateIs(t, "pruned", 5, 4, 1, 1, 4, 5, 6)
	b.partialIs(t, "swept", 3)
	is(t, "names", names(t, b.d), "fetch-3 fetch-8 latest other version-4 version-5 version-6")
	calm(t, "taken over", b.d, func() { b.takes(t, "once more", order(2, 3)) })
}

// An error of Prune is told at once: there is no fetch then, neither the old one nor the new one. What was swept is.
func TestFetchCannotMakeRoom(t *testing.T) {
	crowd := crowded(t)
	put(t, crowd.d, "store/trash-1/x", "in the way")
	crowd.answers(t, "ErrThere", order(2, 3), ended(2, 3, api.ErrThere))
	crowd.fetchIs(t, "no fetch", api.FetchState{})
	is(t, "names", names(t, crowd.d), "fetch-3 fetch-8 latest other trash-1 version-1 version-2 version-4 version-5 version-6")
	is(t, "Up", crowd.Up(), true)
	// With a fetch that is going on: versions become old by a swap.
	b := with(t, small(1), 0, ones(5, 4), 4, 5, 6)
	b.begun(t, order(2, 7))
	b.wants(t)
	b.answers(t, "MsgSwap", swap(6, 3, 1), api.Msg{Kind: api.MsgSwapped, Epoch: 3, Seq: 1, Version: 6, Prev: 5})
	put(t, b.d, "store/trash-4", "in the way")
	b.answers(t, "ErrThere", order(3, 8), ended(3, 8, api.ErrThere))
	b.fetchIs(t, "the old one is no more", api.FetchState{})
	b.wantIs(t, "the old one is no more", api.Want{}, api.ErrOver)
	is(t, "its directory is swept", there(b.d, "store/fetch-7"), false)
}

// An error of a sweep is that of a disk that goes down: nothing goes out, and behind the boot there is no fetch.
func TestFetchGoesDownSweeping(t *testing.T) {
	for k := range 12 {
		b := crowded(t)
		safe(t, b.d)
		done(t, b.d.Arm(k))
		b.takes(t, "MsgFetch", order(2, 3))
		is(t, "Up", b.Up(), false)
		b.crash(t, k, 0)
		b.fetchIs(t, "no fetch", api.FetchState{})
		b.takes(t, "MsgFetch", order(2, 3))
		b.stateIs(t, "pruned", 5, 4, 1, 1, 4, 5, 6)
		b.partialIs(t, "swept", 3)
		frames, _ := b.pulls(t, stock(t, small(1), 0, 3))
		b.hears(t, "MsgFetched", frames, order(2, 3), ended(2, 3, api.OK))
	}
}

// The versions at the ends of their range, and numbers at the ends of theirs.
func TestFetchOfTheEnds(t *testing.T) {
	for _, version := range []int{1, last} {
		b := at(t, small(2), 0)
		m := api.Msg{Kind: api.MsgFetch, From: 65535, Id: most, Epoch: most, Version: version}
		b.fetches(t, m)
		b.stateIs(t, "fetched", 0, 0, 0, 0, version)
		got := b.does(t, m)
		b.hears(t, "it has that", got, m, ended(most, version, api.OK))
		if text, e := frame.Decode(got[0]); text.Id != most || text.To != 65535 || e != api.OK {
			t.Errorf("%+v, %d", text, e)
		}
	}
}
