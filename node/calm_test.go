package node

import (
	"fmt"
	"testing"

	"granary/api"
)

// P14.14

// blocks are all that a fetch asks for behind the manifest, in its order.
func blocks(t *testing.T, c api.Cluster, id, version int) []api.Want {
	t.Helper()
	var list []api.Want
	files := stock(t, c, id, version)
	for _, name := range rows(files) {
		for at := 0; at < len(files[name]); at += c.Block {
			list = append(list, api.Want{Version: version, File: name, At: at, Size: min(c.Block, len(files[name])-at)})
		}
	}
	return list
}

// bound is the most ticks that blocks take.
func bound(c api.Cluster, list []api.Want) int {
	sum := 0
	for _, w := range list {
		sum += (w.Size*c.Per + c.Rate - 1) / c.Rate
	}
	return sum
}

// Fed with what the repository has, it asks for each block once, and ends behind no more ticks than the blocks take.
func TestCalm(t *testing.T) {
	for _, base := range []struct {
		c  api.Cluster
		id int
	}{{east(), 0}, {east(), 1}, {east(), 2}, {small(1), 0}} {
		for _, block := range []int{1, 7, 64, 4096} {
			for _, rate := range []int{1, 50, 65536} {
				for _, per := range []int{1, 3} {
					for _, tries := range []int{1, 3} {
						c := base.c
						c.Block, c.Rate, c.Per, c.Burst, c.Tries = block, rate, per, block+rate%7, tries
						b := at(t, c, base.id)
						what := fmt.Sprintf("node %d, block %d, rate %d, per %d", base.id, block, rate, per)
						b.takes(t, what, order(1, 1))
						frames, all := b.pulls(t, stock(t, c, base.id, 1))
						b.hears(t, what, frames, order(1, 1), ended(1, 1, api.OK))
						want := blocks(t, c, base.id, 1)
						same(t, what, all, append([]api.Want{{Version: 1, File: "manifest"}}, want...))
						if most := bound(c, want); b.now > most {
							t.Errorf("%s: %d ticks, at most %d", what, b.now, most)
						}
						b.stateIs(t, what, 0, 0, 0, 0, 1)
						b.partialIs(t, what)
					}
				}
			}
		}
	}
}

// A file that was spoilt is asked for once more; no other block is.
func TestCalmBehindAForgedBlock(t *testing.T) {
	c := small(1)
	c.Block = 30
	files, want := stock(t, c, 0, 1), blocks(t, c, 0, 1)
	for forged, x := range want {
		b := at(t, c, 0)
		b.begun(t, order(1, 1))
		asked := map[api.Want]int{}
		var frames []string
		for i := 0; len(frames) == 0; i++ {
			w := b.wants(t)
			asked[w]++
			text := piece(files, w)
			if i == forged {
				text = spoilt(text, 0)
			}
			frames = b.feeds(text)
		}
		b.hears(t, "MsgFetched", frames, order(1, 1), ended(1, 1, api.OK))
		is(t, "blocks", len(asked), len(want))
		for _, w := range want {
			times := 1
			if w.File == x.File {
				times = 2
			}
			is(t, fmt.Sprintf("block %d is forged: %+v", forged, w), asked[w], times)
		}
	}
}

// Broken off by a crash or a halt behind each block, it asks for no block twice.
func TestCalmBehindACrash(t *testing.T) {
	c := small(1)
	c.Block = 30
	files, want := stock(t, c, 0, 1), blocks(t, c, 0, 1)
	for _, crash := range []bool{false, true} {
		for cut := range want {
			b := at(t, c, 0)
			b.begun(t, order(1, 1))
			var all []api.Want
			for range cut {
				w := b.wants(t)
				all = append(all, w)
				silent(t, "a block", b.feeds(piece(files, w)))
			}
			if crash {
				b.crash(t, 0, 0)
			} else {
				b.again(t)
			}
			b.takes(t, "once more", order(1, 1))
			frames, rest := b.pulls(t, files)
			b.hears(t, "MsgFetched", frames, order(1, 1), ended(1, 1, api.OK))
			same(t, fmt.Sprint("broken off behind ", cut), append(all, rest[1:]...), want)
		}
	}
}

// A fetch that is called off and asked for again later goes on where it was, too.
func TestCalmBehindABack(t *testing.T) {
	c := small(1)
	c.Block = 30
	files, want := stock(t, c, 0, 1), blocks(t, c, 0, 1)
	b := at(t, c, 0)
	b.takes(t, "MsgFetch", order(1, 1))
	var all []api.Want
	for epoch := 1; ; epoch++ {
		w := b.wants(t)
		if w.File == "manifest" {
			if frames := b.feeds(files["manifest"]); len(frames) > 0 {
				t.Fatal("it ends at once")
			}
			continue
		}
		all = append(all, w)
		if frames := b.feeds(piece(files, w)); len(frames) > 0 {
			break
		}
		b.does(t, back(epoch, 2))
		b.fetchIs(t, "called off", api.FetchState{})
		b.takes(t, "once more", order(epoch+1, 1))
	}
	same(t, "blocks", all, want)
	b.stateIs(t, "fetched", 0, 0, b.Look().Has.Epoch, 2, 1)
}

// Failures here and there, as many as there are tries for each file: it ends all the same.
func TestCalmBehindFailures(t *testing.T) {
	c := small(1)
	c.Block, c.Tries = 60, 4
	files := stock(t, c, 0, 1)
	b := at(t, c, 0)
	b.takes(t, "MsgFetch", order(1, 1))
	failed := map[string]int{}
	for {
		w := b.wants(t)
		if failed[w.File] < 3 {
			failed[w.File]++
			silent(t, "a failure", b.Feed(api.ErrLost, "", 0))
			continue
		}
		if frames := b.feeds(piece(files, w)); len(frames) > 0 {
			b.hears(t, "MsgFetched", frames, order(1, 1), ended(1, 1, api.OK))
			break
		}
	}
	is(t, "files that failed", len(failed), len(files))
}
