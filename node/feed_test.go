package node

import (
	"fmt"
	"maps"
	"slices"
	"strings"
	"testing"

	"granary/api"
	"granary/digest"
	"granary/engine"
	"granary/paper"
)

// P14.8, P14.9

// nothingComes holds that a Feed of each kind is let go.
func nothingComes(t *testing.T, what string, b *bench, texts ...string) {
	t.Helper()
	ahead := b.Look()
	calm(t, what, b.d, func() {
		for _, code := range codes() {
			for _, text := range append(texts, "", "x") {
				for _, crc := range []int{digest.CRC(text), 0, -1, leastInt, mostInt} {
					silent(t, what, b.Feed(code, text, crc))
				}
			}
		}
	})
	same(t, what, b.Look(), ahead)
}

// At every place where nothing is asked for, nothing comes of a Feed.
func TestFeedThatIsNotAskedFor(t *testing.T) {
	c := small(2)
	c.Block = 10
	files := stock(t, c, 0, 1)
	text := files["manifest"]
	b := at(t, c, 0)
	nothingComes(t, "no fetch", b, text)
	b.takes(t, "MsgFetch", order(1, 1))
	nothingComes(t, "after the manifest", b, text)
	b.wants(t)
	silent(t, "lost", b.Feed(api.ErrLost, "", 0))
	nothingComes(t, "behind a failure", b, text)
	b.wantIs(t, "too early", api.Want{}, api.ErrWait)
	nothingComes(t, "a Want that must wait", b, text)
	b.wants(t)
	silent(t, "the manifest", b.feeds(text))
	nothingComes(t, "a job", b, text, files["0_0_0.data"][:10])
	b.wants(t)
	silent(t, "a block", b.feeds(files["0_0_0.data"][:10]))
	nothingComes(t, "behind a block", b, text, files["0_0_0.data"][10:20])
	b.wants(t)
	silent(t, "a block is lost", b.Feed(api.ErrLost, "", 0))
	nothingComes(t, "behind a block that is lost", b, files["0_0_0.data"][10:20])
	b.wants(t)
	silent(t, "a block is spoilt", b.Feed(api.OK, "x", 0))
	nothingComes(t, "behind a block that is spoilt", b, files["0_0_0.data"][10:20])
	frames, _ := b.pulls(t, files)
	b.hears(t, "MsgFetched", frames, order(1, 1), ended(1, 1, api.OK))
	nothingComes(t, "behind the end", b, text)
}

// ErrUnbuilt ends the fetch, at each place where something is asked for; what was fetched stays.
func TestFeedUnbuilt(t *testing.T) {
	files := stock(t, east(), 1, 1)
	for _, ready := range []func(b *bench){
		func(b *bench) {},
		func(b *bench) { b.wants(t); silent(t, "lost", b.Feed(api.ErrLost, "", 0)) },
		func(b *bench) { b.fed(t, files) },
		func(b *bench) { b.fed(t, files); b.fed(t, files) },
	} {
		for _, text := range []string{"", "x", files["manifest"]} { // whatever is handed in beside it
			b := second(t)
			b.takes(t, "MsgFetch", order(3, 1))
			ready(b)
			b.wants(t)
			calm(t, "ErrUnbuilt", b.d, func() {
				b.hears(t, "ErrUnbuilt", b.Feed(api.ErrUnbuilt, text, digest.CRC(text)), order(3, 1), ended(3, 1, api.ErrUnbuilt))
			})
			b.fetchIs(t, "no more", api.FetchState{})
			b.wantIs(t, "no more", api.Want{}, api.ErrOver)
			// It may be fetched again, with an earlier epoch too.
			b.fetches(t, order(1, 1))
		}
	}
}

// spoilt is a text in which a byte is another one.
func spoilt(text string, at int) string {
	b := []byte(text)
	b[at] ^= 1
	return string(b)
}

// failure is what comes in the place of a manifest, and the cause that is told.
type failure struct {
	what  string
	code  api.Errno
	text  string
	off   int // added to the sum
	cause api.Errno
}

// failures are those for the manifest of version 1 for node 1 of E.
func failures(t *testing.T) []failure {
	t.Helper()
	c := east()
	text := stock(t, c, 1, 1)["manifest"]
	other := c
	other.Store = "eastern"
	list := []failure{
		{"another sum", api.OK, text, 1, api.ErrBlock},
		{"a sum below all", api.OK, text, leastInt, api.ErrBlock},
		{"nothing, and no sum", api.OK, "", 1, api.ErrBlock},
		{"another sum, and no manifest", api.OK, "x", -1, api.ErrBlock},
		{"another sum, and another's", api.OK, stock(t, c, 0, 1)["manifest"], 1, api.ErrBlock},
		{"nothing", api.OK, "", 0, api.ErrForm},
		{"no manifest", api.OK, "x", 0, api.ErrForm},
		{"a pointer", api.OK, pointer(t, 1, 0, 1, 1), 0, api.ErrForm},
		{"a part", api.OK, text[:len(text)-1], 0, api.ErrForm},
		{"more", api.OK, text + "\n", 0, api.ErrForm},
		{"a digit is another one", api.OK, strings.Replace(text, "version 1\n", "version 2\n", 1), 0, api.ErrSum},
		{"another version", api.OK, stock(t, c, 1, 2)["manifest"], 0, api.ErrOther},
		{"another node", api.OK, stock(t, c, 0, 1)["manifest"], 0, api.ErrOther},
		{"another store", api.OK, stock(t, other, 1, 1)["manifest"], 0, api.ErrOther},
		{"all others", api.OK, stock(t, other, 2, 3)["manifest"], 0, api.ErrOther},
		{"another's, and no files", api.OK, manifest(t, "east", 1, 2, nil), 0, api.ErrOther},
		{"totals that do not fit", api.OK, wrongTotal(t), 0, api.ErrTotal},
		{"a field that may not be", api.OK, sealed(strings.Replace(text[:strings.LastIndex(text, "sum ")], "node 1\n", "node 16\n", 1)), 0, api.ErrField},
	}
	for i, code := range codes() {
		if code != api.OK && code != api.ErrUnbuilt {
			x := list[0]
			x.what, x.code, x.off, x.cause = fmt.Sprint("the code ", int(code)), code, i%2, api.ErrLost // with another sum, too
			list = append(list, x)
		}
	}
	return list
}

// sealed is a paper with the sum that its lines have.
func sealed(lines string) string {
	return lines + fmt.Sprintf("sum %08x\n", digest.CRC(lines))
}

// wrongTotal is a manifest whose total is another one, its own sum fitting.
func wrongTotal(t *testing.T) string {
	t.Helper()
	text := stock(t, east(), 1, 1)["manifest"]
	m, e := paper.ParseManifest(text)
	done(t, e)
	lines := text[:strings.LastIndex(text, "sum ")]
	return sealed(strings.Replace(lines, fmt.Sprintf("total %d\n", m.Total), fmt.Sprintf("total %d\n", m.Total+1), 1))
}

func TestFeedOfNoManifest(t *testing.T) {
	for _, x := range failures(t) {
		b := second(t)
		b.takes(t, x.what, order(3, 1))
		for try := range 3 {
			b.wants(t)
			is(t, "now", b.now, []int{0, 1, 3}[try])
			calm(t, x.what, b.d, func() {
				frames := b.Feed(x.code, x.text, digest.CRC(x.text)+x.off)
				if try == 2 {
					b.hears(t, x.what, frames, order(3, 1), ended(3, 1, x.cause))
					return
				}
				silent(t, x.what, frames)
				b.fetchIs(t, x.what, after(1))
				b.wantIs(t, x.what, api.Want{}, api.ErrWait)
			})
		}
		b.wantIs(t, x.what, api.Want{}, api.ErrOver)
		b.partialIs(t, x.what)
		b.fetches(t, order(3, 1))
	}
}

// A failure here and there does not keep the fetch from its end; the code that is told is the last cause's.
func TestFeedTellsTheLastCause(t *testing.T) {
	list := failures(t)
	for i, first := range list {
		for j, second := range list {
			if (i+j)%5 != 0 {
				continue
			}
			third := list[(i*j)%len(list)]
			b := at(t, east(), 1)
			b.takes(t, "MsgFetch", order(3, 1))
			for _, x := range []int{i, j} {
				b.wants(t)
				silent(t, "a failure", b.Feed(list[x].code, list[x].text, digest.CRC(list[x].text)+list[x].off))
			}
			if (i+j)%2 == 0 {
				frames, _ := b.pulls(t, stock(t, east(), 1, 1))
				b.hears(t, first.what+", "+second.what, frames, order(3, 1), ended(3, 1, api.OK))
				continue
			}
			b.wants(t)
			b.hears(t, first.what+", "+second.what+", "+third.what, b.Feed(third.code, third.text, digest.CRC(third.text)+third.off), order(3, 1), ended(3, 1, third.cause))
		}
	}
}

// With one try the first failure is the last.
func TestFeedWithOneTry(t *testing.T) {
	c := east()
	c.Tries = 1
	b := at(t, c, 1)
	for _, x := range failures(t) {
		b.takes(t, x.what, order(3, 1))
		b.wants(t)
		b.hears(t, x.what, b.Feed(x.code, x.text, digest.CRC(x.text)+x.off), order(3, 1), ended(3, 1, x.cause))
	}
	c.Tries = 64
	b = at(t, c, 1)
	b.takes(t, "MsgFetch", order(3, 1))
	for try := range 64 {
		b.wants(t)
		if frames := b.Feed(api.ErrLost, "", 0); try < 63 {
			silent(t, "a failure", frames)
		} else {
			b.hears(t, "the last", frames, order(3, 1), ended(3, 1, api.ErrLost))
		}
	}
}

// The manifest's failures are counted apart from the job's.
func TestFeedCountsTheJobApart(t *testing.T) {
	b := alone(t)
	files := stock(t, small(2), 0, 1)
	b.takes(t, "MsgFetch", order(3, 1))
	for range 2 {
		b.wants(t)
		silent(t, "a failure", b.Feed(api.ErrLost, "", 0))
	}
	silent(t, "the manifest", b.fed(t, files))
	for range 2 {
		b.wants(t)
		silent(t, "a failure", b.Feed(api.ErrLost, "", 0))
	}
	frames, _ := b.pulls(t, files)
	b.hears(t, "MsgFetched", frames, order(3, 1), ended(3, 1, api.OK))
}

// Blocks that are spoilt in any way are failures of the job; when no try is left the fetch ends with the last cause.
func TestFeedOfSpoiltBlocks(t *testing.T) {
	files := stock(t, small(2), 0, 1)
	for _, x := range []struct {
		what  string
		cause api.Errno
		feed  func(b *bench, w api.Want) []string
	}{
		{"lost", api.ErrLost, func(b *bench, w api.Want) []string { return b.Feed(api.ErrLost, "", 0) }},
		{"another code", api.ErrLost, func(b *bench, w api.Want) []string {
			text := piece(files, w)
			return b.Feed(api.ErrFile, text, digest.CRC(text))
		}},
		{"the least code", api.ErrLost, func(b *bench, w api.Want) []string { return b.Feed(api.Errno(leastInt), "x", mostInt) }},
		{"trimmed", api.ErrBlock, func(b *bench, w api.Want) []string {
			text := piece(files, w)
			return b.Feed(api.OK, text[:len(text)-1], digest.CRC(text))
		}},
		{"trimmed, its sum fitting", api.ErrBlock, func(b *bench, w api.Want) []string { return b.feeds(piece(files, w)[1:]) }},
		{"nothing", api.ErrBlock, func(b *bench, w api.Want) []string { return b.feeds("") }},
		{"more", api.ErrBlock, func(b *bench, w api.Want) []string { return b.feeds(piece(files, w) + "x") }},
		{"turned", api.ErrBlock, func(b *bench, w api.Want) []string {
			text := piece(files, w)
			return b.Feed(api.OK, spoilt(text, 3), digest.CRC(text))
		}},
		{"another sum", api.ErrBlock, func(b *bench, w api.Want) []string { return b.Feed(api.OK, piece(files, w), -1) }},
	} {
		for _, name := range []string{"0_0_0.data", "meta"} {
			b := alone(t)
			b.begun(t, order(3, 1))
			for b.wants(t).File != name {
				silent(t, x.what, b.fed(t, files))
			}
			for try := range 3 {
				w := b.wants(t)
				is(t, x.what, w.File, name)
				frames := x.feed(b, w)
				if try < 2 {
					silent(t, x.what, frames)
					is(t, x.what, b.Look().Fetch.Phase, api.FetchRunning)
					continue
				}
				b.hears(t, x.what, frames, order(3, 1), ended(3, 1, x.cause))
			}
			b.fetchIs(t, x.what, api.FetchState{})
			b.partialIs(t, x.what+": it stays", 1)
			b.fetches(t, order(3, 1))
		}
	}
}

// Forged blocks, whose sums fit, are told when their file is closed: the file begins anew, and the fetch ends with ErrWhole if that comes about too often.
func TestFeedOfForgedBlocks(t *testing.T) {
	files := stock(t, small(2), 0, 1)
	b := alone(t)
	b.begun(t, order(3, 1))
	for range 2 {
		w := b.wants(t)
		is(t, "File", w.File, "0_0_0.data")
		is(t, "At", w.At, 0)
		text := files[w.File]
		for at := 0; at < len(text); at += w.Size {
			w = b.wants(t)
			silent(t, "forged", b.feeds(spoilt(piece(files, w), 0)))
		}
		b.fetchIs(t, "anew", after(1))
	}
	for {
		w := b.wants(t)
		if frames := b.feeds(spoilt(piece(files, w), 0)); len(frames) > 0 {
			b.hears(t, "the third time", frames, order(3, 1), ended(3, 1, api.ErrWhole))
			break
		}
	}
	b.fetches(t, order(3, 1))
	b.answers(t, "MsgSwap", swap(1, 4, 1), api.Msg{Kind: api.MsgSwapped, Epoch: 4, Seq: 1, Version: 1})
	b.serves(t, "what is right", 1)
}

// The job may not be begun: the fetch ends with the error of fetch.Begin, and what lies there stays.
func TestFeedBeginsNothing(t *testing.T) {
	c := small(2)
	files := stock(t, c, 0, 1)
	tight := c
	tight.Quota = 10
	wrongEmpty := func() string {
		m := api.Manifest{Store: c.Store, Version: 1, Files: []api.FileRow{{Name: "meta", Crc: 1, Md5: digest.MD5("")}}, Whole: 1}
		text, e := paper.PrintManifest(m)
		done(t, e)
		return text
	}
	for _, x := range []struct {
		what string
		c    api.Cluster
		text string
		lie  func(b *bench)
		want api.Errno
	}{
		{"above the quota", tight, files["manifest"], func(b *bench) {}, api.ErrQuota},
		{"a row named journal", c, manifest(t, "small", 1, 0, map[string]string{"journal": "x"}), func(b *bench) {}, api.ErrFile},
		{"a row named manifest", c, manifest(t, "small", 1, 0, map[string]string{"manifest": "x"}), func(b *bench) {}, api.ErrFile},
		{"an empty row with another sum", c, wrongEmpty(), func(b *bench) {}, api.ErrWhole},
		{"a file in the way", c, files["manifest"], func(b *bench) { put(t, b.d, "store/fetch-1", "x") }, api.ErrKind},
		{"no room", c, files["manifest"], func(b *bench) { fill(t, b.d, 20) }, api.ErrFull},
		{"no store", c, files["manifest"], func(b *bench) { away(t, b.d, "store") }, api.ErrNone},
	} {
		b := at(t, x.c, 0)
		b.takes(t, x.what, order(3, 1))
		x.lie(b)
		b.wants(t)
		b.hears(t, x.what, b.feeds(x.text), order(3, 1), ended(3, 1, x.want))
		b.fetchIs(t, x.what, api.FetchState{})
		b.wantIs(t, x.what, api.Want{}, api.ErrOver)
		is(t, x.what+": Up", b.Up(), true)
		is(t, x.what+": the partial directory", there(b.d, "store/fetch-1"), x.want == api.ErrKind || x.want == api.ErrFull)
	}
}

// The job fails with an error of the disk: the fetch ends with that.
func TestFeedWithoutRoom(t *testing.T) {
	b := alone(t)
	b.begun(t, order(3, 1))
	fill(t, b.d, 3)
	w := b.wants(t)
	b.hears(t, "ErrFull", b.feeds(piece(stock(t, small(2), 0, 1), w)), order(3, 1), ended(3, 1, api.ErrFull))
	b.wantIs(t, "no more", api.Want{}, api.ErrOver)
	b.partialIs(t, "it stays", 1)
	away(t, b.d, "fill")
	b.fetches(t, order(3, 1))
}

// The job's limits are the cluster's: each of them is felt.
func TestFeedGoesByTheCluster(t *testing.T) {
	c := small(2)
	c.Block, c.Rate, c.Per, c.Burst, c.Tries, c.Base, c.Most = 7, 2, 3, 9, 5, 2, 3
	files := stock(t, c, 0, 1)
	total := 0
	for name, text := range files {
		if name != "manifest" {
			total += len(text)
		}
	}
	for quota, want := range map[int]api.Errno{total: api.OK, total - 1: api.ErrQuota} {
		c.Quota = quota
		b := at(t, c, 0)
		b.takes(t, "MsgFetch", order(1, 1))
		if frames := b.fed(t, files); want != api.OK {
			b.hears(t, "Quota", frames, order(1, 1), ended(1, 1, want))
			continue
		}
		w := b.wants(t)
		is(t, "Block", w, api.Want{Version: 1, File: "0_0_0.data", Size: 7})
		for try, wait := range []int{2, 3, 3, 3, 0} {
			w := b.wants(t)
			now := b.now
			if frames := b.Feed(api.ErrLost, "", 0); try == 4 {
				b.hears(t, "Tries", frames, order(1, 1), ended(1, 1, api.ErrLost))
				break
			}
			is(t, "At", w.At, 0)
			b.wants(t)
			// Nine tokens at first, seven a try, two come each three ticks: the wait is the longer of the two.
			tokens := []int{8, 10, 11, 10}[try]
			is(t, fmt.Sprint("the ticks of try ", try), b.now-now, max(wait, tokens))
		}
	}
}

// P14.9

// A directory that is whole already (a crash came between its last block and its admission): the job is done at once.
func TestDoneAtOnce(t *testing.T) {
	b := with(t, east(), 1, ones(2, 1), 1, 2)
	lay(t, b.d, "store/fetch-3", stock(t, east(), 1, 3))
	b.takes(t, "MsgFetch", order(3, 3))
	b.partialIs(t, "it is kept", 3)
	b.hears(t, "MsgFetched", b.fed(t, stock(t, east(), 1, 3)), order(3, 3), ended(3, 3, api.OK))
	b.stateIs(t, "admitted", 2, 1, 1, 1, 1, 2, 3)
	b.partialIs(t, "admitted")
	b.fetchIs(t, "no more", api.FetchState{})
	b.crash(t, 0, 0)
	b.stateIs(t, "and safe", 2, 1, 1, 1, 1, 2, 3)
}

// unfit is files that their manifest is right for, and that are no version of a cluster for a node.
type unfit struct {
	files map[string]string
	want  api.Errno
}

// refused are such files, by what is wrong with them.
func refused(t *testing.T, c api.Cluster) map[string]unfit {
	t.Helper()
	list := map[string]unfit{}
	add := func(what string, want api.Errno, change func(files map[string]string)) {
		files := stock(t, c, 0, 1)
		change(files)
		list[what] = unfit{withManifest(t, c, 1, 0, files), want}
	}
	add("no files", api.ErrMissing, func(files map[string]string) { clear(files) })
	add("a file is lacking", api.ErrMissing, func(files map[string]string) { delete(files, "meta") })
	add("a file more", api.ErrExtra, func(files map[string]string) { files["zzz"] = "x" })
	add("an empty file more", api.ErrExtra, func(files map[string]string) { files["zzz"] = "" })
	add("no chunk", api.ErrContent, func(files map[string]string) { files["0_0_0.data"] = spoilt(files["0_0_0.data"], 1) })
	add("no meta", api.ErrForm, func(files map[string]string) { files["meta"] = "x" })
	add("a meta of another version", api.ErrOther, func(files map[string]string) { files["meta"] = stock(t, c, 0, 2)["meta"] })
	return list
}

// What the engine does not admit is swept, and the fetch ends with that error; the next fetch begins anew.
func TestAdmitIsRefused(t *testing.T) {
	c := small(2)
	for what, x := range refused(t, c) {
		b := with(t, c, 0, ones(3, 2), 2, 3)
		put(t, b.d, "store/other/x", "stays")
		b.takes(t, what, order(3, 1))
		frames, all := b.pulls(t, x.files)
		b.hears(t, what, frames, order(3, 1), ended(3, 1, x.want))
		is(t, what+": names", names(t, b.d), "latest other version-2 version-3")
		b.partialIs(t, what)
		b.stateIs(t, what, 3, 2, 1, 1, 2, 3)
		b.fetchIs(t, what, api.FetchState{})
		b.wantIs(t, what, api.Want{}, api.ErrOver)
		b.serves(t, what, 3)
		is(t, what+": at once", len(all) == 1, what == "no files")
		b.crash(t, 0, 0)
		is(t, what+": names", names(t, b.d), "latest other version-2 version-3")
		b.fetches(t, order(3, 1))
		b.stateIs(t, what, 3, 2, 1, 1, 1, 2, 3)
	}
}

// The acts of an Admit that is refused: those of the job, and those of the sweep.
func TestAdmitIsRefusedInActs(t *testing.T) {
	c := small(2)
	x := refused(t, c)["a file more"]
	ready := func() *bench {
		b := with(t, c, 0, ones(3, 2), 2, 3)
		lay(t, b.d, "store/fetch-1", x.files)
		b.takes(t, "MsgFetch", order(3, 1))
		b.wants(t)
		return b
	}
	rows := slices.Sorted(maps.Keys(x.files))
	// Taken up without a journal: Sync of the manifest, both directories, and each row's file.
	taken := 3 + len(rows) - 1
	sweep := sweeping(1, rows...)
	for k := range taken + len(sweep) + 1 {
		b := ready()
		done(t, b.d.Arm(k))
		ahead := b.d.Acts()
		frames := b.feeds(x.files["manifest"])
		is(t, "acts", b.d.Acts()-ahead, k)
		if k < taken+len(sweep) {
			silent(t, "down", frames)
			is(t, "Up", b.Up(), false)
		} else {
			b.hears(t, "swept", frames, order(3, 1), ended(3, 1, api.ErrExtra))
		}
		list, _ := ready().d.List("store/fetch-1")
		left := len(list) - max(0, min(k-taken, len(list)))
		b.d.Crash(99, 99)
		list, _ = b.d.List("store/fetch-1")
		is(t, fmt.Sprint("files left behind ", k, " acts"), len(list), left)
	}
}

// A sweep that fails is let go: what is told is why the engine refused.
func TestAdmitIsRefusedAndTheSweepToo(t *testing.T) {
	b := alone(t)
	files := stock(t, small(2), 0, 1)
	b.begun(t, order(3, 1))
	put(t, b.d, "store/version-1", "in the way")
	frames, _ := b.pulls(t, files)
	b.hears(t, "the rename is refused", frames, order(3, 1), ended(3, 1, api.ErrThere))
	is(t, "names", names(t, b.d), "version-1")
	is(t, "Up", b.Up(), true)
	b.answers(t, "stuck", get("abc"), api.Msg{Kind: api.MsgGot, Key: "abc", Code: api.ErrStuck})

	stuck := alone(t)
	stuck.begun(t, order(3, 1))
	for stuck.Look().Fetch.File < 2 {
		silent(t, "a block", stuck.fed(t, files))
	}
	w := stuck.wants(t)
	is(t, "the last file", w.File, "meta")
	stuck.Node.memory.engine, _ = engine.Open(fresh(t, 10), small(2), 0) // one that finds nothing to admit
	for w.At+w.Size < len(files["meta"]) {
		silent(t, "a block", stuck.feeds(piece(files, w)))
		w = stuck.wants(t)
	}
	stuck.hears(t, "ErrPartial", stuck.feeds(piece(files, w)), order(3, 1), ended(3, 1, api.ErrPartial))
	is(t, "swept", names(t, stuck.d), "")
}
