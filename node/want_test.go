package node

import (
	"fmt"
	"testing"

	"granary/api"
)

// P14.7, P14.10

func TestWantWithoutFetch(t *testing.T) {
	b := with(t, east(), 1, ones(2, 1), 1, 2)
	for range 3 {
		b.wantIs(t, "no fetch", api.Want{}, api.ErrOver)
		done(t, b.Tick())
	}
	b.fetches(t, order(2, 3))
	b.wantIs(t, "behind a fetch", api.Want{}, api.ErrOver)
	b.answers(t, "what it has", order(2, 3), ended(2, 3, api.OK))
	b.wantIs(t, "behind an answer", api.Want{}, api.ErrOver)
}

// The manifest is asked for as often as one likes, and nothing changes by that.
func TestWantOfTheManifest(t *testing.T) {
	for _, version := range []int{1, last} {
		b := second(t)
		b.takes(t, "MsgFetch", order(1, version))
		is(t, "asked", b.fetch.asked, false)
		calm(t, "Want", b.d, func() {
			for range 5 {
				b.wantsManifest(t, "again and again", version)
				is(t, "asked", b.fetch.asked, true)
				b.fetchIs(t, "as it was", after(version))
			}
			done(t, b.Tick())
			b.wantsManifest(t, "a tick later", version)
		})
	}
}

// Behind a failure it waits: base ticks, twice as many, up to most; till just the tick from which the next try may be made.
func TestWantWaits(t *testing.T) {
	c := east()
	c.Tries, c.Base, c.Most = 7, 3, 20
	for _, ahead := range []int{0, 1, 100} { // ticks that went by since the boot
		b := at(t, c, 1)
		for range ahead {
			done(t, b.Tick())
		}
		b.takes(t, "MsgFetch", order(1, 1))
		for try, wait := range []int{3, 6, 12, 20, 20, 20} {
			what := fmt.Sprint("failure ", try)
			b.wantsManifest(t, what, 1)
			silent(t, what, b.Feed(api.ErrLost, "", 0))
			for range wait {
				b.wantIs(t, what+": too early", api.Want{}, api.ErrWait)
				is(t, what+": asked", b.fetch.asked, false)
				b.fetchIs(t, what, after(1))
				done(t, b.Tick())
			}
		}
		b.wantsManifest(t, "the last try", 1)
		b.hears(t, "no try is left", b.Feed(api.ErrLost, "", 0), order(1, 1), ended(1, 1, api.ErrLost))
		// The next fetch has a budget of its own, and does not wait.
		b.takes(t, "MsgFetch", order(1, 1))
		b.wantsManifest(t, "anew", 1)
		silent(t, "anew", b.Feed(api.ErrLost, "", 0))
		for range 3 {
			b.wantIs(t, "anew: too early", api.Want{}, api.ErrWait)
			done(t, b.Tick())
		}
		b.wantsManifest(t, "anew", 1)
	}
}

// A later tick than need be will do, too: the wait behind it is counted from then.
func TestWantLater(t *testing.T) {
	c := east()
	c.Base, c.Most = 4, 8
	b := at(t, c, 1)
	b.takes(t, "MsgFetch", order(1, 1))
	b.wants(t)
	for range 50 {
		done(t, b.Tick())
	}
	silent(t, "the first failure", b.Feed(api.ErrLost, "", 0)) // at the time 50
	for range 30 {
		done(t, b.Tick())
	}
	b.wantsManifest(t, "late", 1)
	silent(t, "the second failure", b.Feed(api.ErrLost, "", 0)) // at the time 80
	for range 8 {
		b.wantIs(t, "too early", api.Want{}, api.ErrWait)
		done(t, b.Tick())
	}
	b.wantsManifest(t, "at last", 1)
}

// With a job it is what the job asks for: blocks, as the tokens last, the same one till it is fed.
func TestWantOfBlocks(t *testing.T) {
	c := small(1)
	c.Block, c.Rate, c.Per, c.Burst = 10, 3, 2, 15
	b := at(t, c, 0)
	b.begun(t, order(1, 1))
	files := stock(t, c, 0, 1)
	first := api.Want{Version: 1, File: "0_0_0.data", At: 0, Size: 10}
	for range 3 {
		b.wantIs(t, "the first block", first, api.OK)
	}
	done(t, b.Tick())
	b.wantIs(t, "a tick later", first, api.OK)
	silent(t, "the first block", b.feeds(piece(files, first)))
	// 5 tokens and those of a tick, one and a half, are left; 10 are needed: three more ticks.
	for range 3 {
		b.wantIs(t, "too few tokens", api.Want{}, api.ErrWait)
		silent(t, "it is not asked for", b.feeds(files["0_0_0.data"][10:20]))
		is(t, "Got", b.Look().Fetch.Got, 10)
		done(t, b.Tick())
	}
	second := api.Want{Version: 1, File: "0_0_0.data", At: 10, Size: 10}
	b.wantIs(t, "tokens enough", second, api.OK)
	silent(t, "it is lost", b.Feed(api.ErrLost, "", 0))
	for range 5 { // the wait is one tick, but the tokens are spent
		b.wantIs(t, "too few tokens", api.Want{}, api.ErrWait)
		done(t, b.Tick())
	}
	done(t, b.Tick(), b.Tick())
	b.wantIs(t, "once more", second, api.OK)
}

// The job's wait behind a failure goes by the node's ticks.
func TestWantOfBlocksWaits(t *testing.T) {
	c := small(1)
	c.Tries, c.Base, c.Most = 4, 3, 5
	b := at(t, c, 0)
	b.begun(t, order(1, 1))
	for _, wait := range []int{3, 5, 5} {
		w := b.wants(t)
		is(t, "At", w.At, 0)
		silent(t, "lost", b.Feed(api.ErrDown, "", 0))
		for range wait {
			b.wantIs(t, "too early", api.Want{}, api.ErrWait)
			done(t, b.Tick())
		}
		b.wantIs(t, "now", w, api.OK)
	}
	b.hears(t, "no try is left", b.Feed(api.ErrDown, "", 0), order(1, 1), ended(1, 1, api.ErrLost))
}

// P14.10: ticks go by while nothing is fetched, too, and a job has its own time from its beginning on.
func TestTick(t *testing.T) {
	b := alone(t)
	calm(t, "Tick", b.d, func() {
		for i := range 100 {
			is(t, "now", b.now, i)
			is(t, "Tick", b.Tick(), api.OK)
		}
	})
	b.takes(t, "MsgFetch", order(1, 1))
	done(t, b.Tick())
	silent(t, "the manifest", b.fed(t, stock(t, small(2), 0, 1)))
	w := b.wants(t)
	silent(t, "lost", b.Feed(api.ErrLost, "", 0))
	b.wantIs(t, "too early", api.Want{}, api.ErrWait)
	done(t, b.Tick())
	b.wantIs(t, "a tick later", w, api.OK)
	is(t, "now", b.now, 102)
	// A disk that is down makes no difference to it.
	down(t, b.d)
	is(t, "Tick", b.Tick(), api.OK)
	is(t, "Up", b.Up(), true)
	b.wantIs(t, "a disk that is down", w, api.OK)
}

// Each tick is one of the job's: not more, not fewer.
func TestTickOfTheJob(t *testing.T) {
	c := small(1)
	c.Block, c.Rate, c.Per, c.Burst = 1, 1, 5, 1
	b := at(t, c, 0)
	b.begun(t, order(1, 1))
	files := stock(t, c, 0, 1)
	for i := range 20 {
		w, e := b.Want()
		is(t, "Want", e, api.OK)
		is(t, "At", w.At, i)
		silent(t, "a byte", b.feeds(piece(files, w)))
		for range 5 {
			b.wantIs(t, "five ticks a byte", api.Want{}, api.ErrWait)
			done(t, b.Tick())
		}
	}
}
