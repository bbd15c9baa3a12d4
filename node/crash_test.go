package node

import (
	"fmt"
	"slices"
	"testing"

	"granary/api"
	"granary/frame"
)

// P14.3, P14.13: a call is broken off behind any number of acts, and anything may survive.

// tale is a Turn or a Feed, and what there is ahead of it.
type tale struct {
	what    string
	version int // that is fetched; 0: none is
	ready   func() *bench
	call    func(b *bench) []string
}

func tales(t *testing.T) []tale {
	c := small(1)
	c.Block = 50
	served := func() *bench {
		b := with(t, c, 0, ones(2, 3), 1, 2, 3, 5) // 1 is old
		put(t, b.d, "store/fetch-8/half", "some")
		safe(t, b.d)
		put(t, b.d, "store/fetch-8/more", "not safe")
		return b
	}
	// upTo is a fetch of version 7 of which all has come but the last blocks.
	upTo := func(left int) func() *bench {
		return func() *bench {
			b, files := served(), stock(t, c, 0, 7)
			b.begun(t, order(2, 7))
			total := 0
			for name, text := range files {
				if name != "manifest" {
					total += len(text)
				}
			}
			for b.Look().Fetch.Got < total-left*c.Block {
				silent(t, "a block", b.fed(t, files))
			}
			b.wants(t)
			return b
		}
	}
	feed := func(b *bench) []string { return b.fed(t, stock(t, c, 0, 7)) }
	posted := func(m api.Msg) func() *bench { return func() *bench { b := served(); b.posts(t, m); return b } }
	turn := func(b *bench) []string { return b.Turn() }
	return []tale{
		{"MsgSwap", 0, posted(swap(3, 2, 1)), turn},
		{"MsgSwap to the same", 0, posted(swap(2, 2, 1)), turn},
		{"MsgBack", 0, posted(back(1, 2)), turn},
		{"MsgBack of a later epoch", 0, posted(back(9, 2)), turn},
		{"MsgSwap without room", 0, func() *bench { b := posted(swap(3, 2, 1))(); fill(t, b.d, 3); return b }, turn},
		{"MsgFetch", 0, posted(order(2, 7)), turn},
		{"MsgFetch of what is half there", 0, posted(order(2, 8)), turn},
		{"the manifest", 7, func() *bench { b := served(); b.takes(t, "MsgFetch", order(2, 7)); b.wants(t); return b }, feed},
		{"the first block", 7, upTo(99), feed},
		{"a block", 7, upTo(2), feed},
		{"the last block", 7, upTo(1), feed},
		{"a block of a forged file", 7, func() *bench {
			b, files := served(), stock(t, c, 0, 7)
			b.begun(t, order(2, 7))
			for b.wants(t); b.Look().Fetch.At+c.Block < len(files["0_0_0.data"]); b.wants(t) {
				silent(t, "forged", b.feeds(spoilt(piece(files, b.wants(t)), 0)))
			}
			return b
		}, feed},
		{"a directory that is whole", 7, func() *bench {
			b := served()
			lay(t, b.d, "store/fetch-7", stock(t, c, 0, 7))
			b.takes(t, "MsgFetch", order(2, 7))
			b.wants(t)
			return b
		}, feed},
		{"a version that is refused", 0, func() *bench {
			b := served()
			b.takes(t, "MsgFetch", order(2, 7))
			b.wants(t)
			return b
		}, func(b *bench) []string { return b.feeds(manifest(t, "small", 7, 0, nil)) }},
		{"a manifest that cannot be taken up", 7, func() *bench {
			b := served()
			put(t, b.d, "store/fetch-7/manifest", "another")
			put(t, b.d, "store/fetch-7/x/y", "z")
			b.takes(t, "MsgFetch", order(2, 7))
			b.wants(t)
			return b
		}, feed},
	}
}

// mark is what a MsgAsk is told.
func mark(s api.State) [4]int { return [4]int{s.Cur, s.Prev, s.Epoch, s.Seq} }

// broken lets a tale's call be broken off in all ways.
func (x tale) broken(t *testing.T, tell func(how string, b *bench, frames []string)) {
	t.Helper()
	b := x.ready()
	before := b.d.Acts()
	x.call(b)
	acts := b.d.Acts() - before
	if acts == 0 {
		t.Fatal("it does nothing")
	}
	for k := range acts + 1 {
		for keep, pending := 0, 0; keep <= pending; keep++ {
			for _, torn := range []int{0, 1, 20, 9999} {
				b := x.ready()
				done(t, b.d.Arm(k))
				frames := x.call(b)
				how := fmt.Sprintf("%s: %d of %d acts, %d changes and %d bytes survive", x.what, k, acts, keep, torn)
				if k < acts {
					silent(t, how, frames)
				}
				is(t, how+": Up", b.Up(), k == acts)
				pending = b.d.Pending()
				b.Halt()
				b.d.Crash(keep, torn)
				if e := b.Boot(); e != api.OK {
					t.Fatalf("%s: Boot = %d", how, e)
				}
				tell(how, b, frames)
			}
		}
	}
}

// oldOrNew holds that what a node has is what it had, or what it was to have.
func oldOrNew(t *testing.T, how string, b *bench, ahead, behind api.State, isNew bool) {
	t.Helper()
	s := b.Look().Has
	if mark(s) != mark(behind) && (isNew || mark(s) != mark(ahead)) {
		t.Fatalf("%s: %+v, want %+v or %+v (new: %v)", how, s, ahead, behind, isNew)
	}
	b.answers(t, how, ask(), told(s.Cur, s.Prev, s.Epoch, s.Seq))
	for v := range 12 {
		had, will, now := slices.Contains(ahead.Have, v), slices.Contains(behind.Have, v), slices.Contains(s.Have, v)
		if had == will && now != had || isNew && now != will {
			t.Fatalf("%s: it has %v, ahead %v, behind %v (new: %v)", how, s.Have, ahead.Have, behind.Have, isNew)
		}
	}
	b.serves(t, how, s.Cur)
	is(t, how+": Fetch", b.Look().Fetch, api.FetchState{})
	is(t, how+": Inbox", b.Look().Inbox, 0)
}

func TestBrokenOff(t *testing.T) {
	for _, x := range tales(t) {
		t.Run(x.what, func(t *testing.T) {
			t.Parallel()
			b := x.ready()
			ahead := b.Look()
			x.call(b)
			behind := b.Look()
			x.broken(t, func(how string, b *bench, frames []string) {
				isNew := false
				if len(frames) > 0 {
					m, _ := frame.Decode(frames[0])
					isNew = m.Code == api.OK
				}
				oldOrNew(t, how, b, ahead.Has, behind.Has, isNew)
				if x.version > 0 {
					goesOn(t, how, b, x.version, min(ahead.Fetch.Got, behind.Fetch.Got))
				}
			})
		})
	}
}

// goesOn holds that a fetch is taken up behind a crash, with so many bytes safe at least, and comes to its end.
func goesOn(t *testing.T, how string, b *bench, version, got int) {
	t.Helper()
	m := order(2, version)
	frames := b.does(t, m)
	if slices.Contains(b.Look().Has.Have, version) {
		b.hears(t, how, frames, m, ended(2, version, api.OK))
		return
	}
	silent(t, how, frames)
	files := stock(t, b.c, b.id, version)
	if frames = b.fed(t, files); len(frames) == 0 {
		if now := b.Look().Fetch.Got; now < got {
			t.Fatalf("%s: %d bytes are safe, want %d", how, now, got)
		}
		frames, _ = b.pulls(t, files)
	}
	b.hears(t, how, frames, m, ended(2, version, api.OK))
	b.answers(t, how, swap(version, 3, 1), api.Msg{Kind: api.MsgSwapped, Epoch: 3, Seq: 1, Version: version, Prev: b.Look().Has.Cur})
	b.serves(t, how, version)
}

// A boot that is itself broken off, and the next one.
func TestBootIsBrokenOff(t *testing.T) {
	for _, x := range tales(t)[:4] {
		lot := dice(len(x.what))
		b := x.ready()
		ahead := b.Look().Has
		x.call(b)
		behind := b.Look().Has
		x.broken(t, func(how string, b *bench, frames []string) {
			if lot.roll(8) != 0 {
				return
			}
			first := b.Look().Has
			b.Halt()
			put(t, b.d, "store/latest.new", "litter")
			put(t, b.d, "store/trash-9/x", "litter")
			put(t, b.d, "store/version-9/x", "litter")
			safe(t, b.d)
			for k := range 12 {
				done(t, b.d.Arm(k))
				if e := b.Boot(); e == api.OK {
					done(t, b.d.Arm(-1), b.Halt())
					break
				} else if e != api.ErrDown {
					t.Fatalf("%s: Boot = %d", how, e)
				}
				is(t, how+": Up", b.Up(), false)
				b.d.Crash(lot.roll(3), lot.roll(9))
			}
			done(t, b.Boot())
			is(t, how, mark(b.Look().Has), mark(first))
			oldOrNew(t, how, b, ahead, behind, false)
		})
	}
}

// What was acknowledged is told behind any crash, whatever was fetched, asked and refused since, till a later order is carried out.
func TestWhatIsAcknowledgedIsKept(t *testing.T) {
	orders := []struct {
		m    api.Msg
		want api.Msg
	}{
		{swap(1, 1, 1), told(1, 0, 1, 1)},
		{swap(1, 1, 1), told(1, 0, 1, 1)}, // once more
		{swap(2, 2, 1), told(2, 1, 2, 1)},
		{back(2, 2), told(1, 1, 2, 2)},
		{back(2, 2), told(1, 1, 2, 2)},
		{back(3, 2), told(1, 1, 3, 2)},
		{swap(3, 4, 1), told(3, 1, 4, 1)},
		{swap(1, 9, 1), told(1, 3, 9, 1)},
		{back(9, 2), told(3, 3, 9, 2)},
		{swap(2, most, most), told(2, 3, most, most)},
	}
	for keep := range 4 {
		b := with(t, small(3), 0, api.Pointer{}, 1, 2, 3)
		for _, x := range orders {
			got, e := frame.Decode(b.does(t, x.m)[0])
			done(t, e)
			answer := got
			answer.Kind, answer.From, answer.To, answer.Id = api.MsgTold, 0, 0, 0
			is(t, "the answer", answer, x.want)
			// A fetch, and orders that are refused, and gets.
			b.does(t, order(most, 5))
			b.Want()
			b.feeds(stock(t, small(3), 0, 5)["manifest"])
			b.does(t, swap(9, most, most-1))
			b.does(t, back(0, 1))
			b.does(t, swap(2, 0, 1))
			b.does(t, get("abc"))
			b.answers(t, "ahead of the crash", ask(), x.want)
			b.crash(t, keep, keep)
			b.answers(t, "behind the crash", ask(), x.want)
			b.again(t)
			b.answers(t, "behind a boot", ask(), x.want)
		}
	}
}
