package node

import (
	"fmt"
	"slices"
	"testing"

	"granary/api"
	"granary/digest"
)

// P14.12

// What is being fetched is not served, and may not be swapped to, till it is whole; then it is served as a whole.
func TestServedFromOneVersion(t *testing.T) {
	c := small(2)
	c.Block = 30
	b := with(t, c, 0, ones(2, 1), 1, 2)
	files := stock(t, c, 0, 3)
	b.takes(t, "MsgFetch", order(2, 3))
	for i := 2; ; i++ {
		b.serves(t, "while it is fetched", 2)
		b.answers(t, "too early", swap(3, i, 1), api.Msg{Kind: api.MsgSwapped, Epoch: i, Seq: 1, Version: 2, Prev: 1, Code: api.ErrAbsent})
		b.answers(t, "too early", api.Msg{Kind: api.MsgSum, Version: 3}, api.Msg{Kind: api.MsgSummed, Version: 3, Code: api.ErrAbsent})
		b.answers(t, "too early", api.Msg{Kind: api.MsgScan, Version: 3}, api.Msg{Kind: api.MsgScanned, Version: 3, Code: api.ErrAbsent})
		if frames := b.fed(t, files); len(frames) > 0 {
			b.hears(t, "MsgFetched", frames, order(2, 3), ended(2, 3, api.OK))
			break
		}
	}
	b.serves(t, "fetched, and not current", 2)
	b.answers(t, "MsgSwap", swap(3, 99, 1), api.Msg{Kind: api.MsgSwapped, Epoch: 99, Seq: 1, Version: 3, Prev: 2})
	b.serves(t, "swapped", 3)
	b.answers(t, "MsgBack", back(99, 2), api.Msg{Kind: api.MsgBacked, Epoch: 99, Seq: 2, Version: 2, Prev: 2})
	b.serves(t, "and back", 2)
}

// Each block is forged once, its sum fitting, in each of some ways: what is admitted at last is right; and what ends otherwise is not served.
func TestForgedBlocksAreNotServed(t *testing.T) {
	c := small(2)
	c.Block = 40
	files := stock(t, c, 0, 3)
	blocks := 0
	for name, text := range files {
		if name != "manifest" {
			blocks += (len(text) + c.Block - 1) / c.Block
		}
	}
	for forged := range blocks {
		for _, tries := range []int{1, 3} {
			c.Tries = tries
			b := with(t, c, 0, ones(2, 1), 1, 2)
			b.begun(t, order(2, 3))
			var frames []string
			for i := 0; len(frames) == 0; i++ {
				w := b.wants(t)
				text := piece(files, w)
				if i == forged {
					text = spoilt(text, len(text)/2)
				}
				frames = b.feeds(text)
			}
			what := fmt.Sprintf("block %d, %d tries", forged, tries)
			if tries == 1 {
				b.hears(t, what, frames, order(2, 3), ended(2, 3, api.ErrWhole))
				b.answers(t, what, swap(3, 3, 1), api.Msg{Kind: api.MsgSwapped, Epoch: 3, Seq: 1, Version: 2, Prev: 1, Code: api.ErrAbsent})
				b.serves(t, what, 2)
				continue
			}
			b.hears(t, what, frames, order(2, 3), ended(2, 3, api.OK))
			b.answers(t, what, swap(3, 3, 1), api.Msg{Kind: api.MsgSwapped, Epoch: 3, Seq: 1, Version: 3, Prev: 2})
			b.serves(t, what, 3)
		}
	}
}

// Manifests of other versions, nodes and stores, and what lies in a partial directory by whoever laid it there: none of it is served.
func TestForeignFilesAreNotServed(t *testing.T) {
	c := small(2)
	for what, lie := range map[string]func(b *bench){
		"another version's files": func(b *bench) { lay(t, b.d, "store/fetch-3", stock(t, c, 0, 4)) },
		"a file is another one": func(b *bench) {
			files := stock(t, c, 0, 3)
			files["0_0_0.data"] = stock(t, c, 0, 4)["0_0_0.data"]
			lay(t, b.d, "store/fetch-3", files)
		},
		"a part": func(b *bench) {
			files := stock(t, c, 0, 3)
			files["meta"] = files["meta"][:10]
			lay(t, b.d, "store/fetch-3", files)
		},
		"more": func(b *bench) {
			files := stock(t, c, 0, 3)
			files["more"] = "x"
			lay(t, b.d, "store/fetch-3", files)
		},
		"a directory": func(b *bench) { put(t, b.d, "store/fetch-3/0_0_0.data/x", "x") },
	} {
		b := with(t, c, 0, ones(2, 1), 1, 2)
		lie(b)
		b.answers(t, what, swap(3, 2, 1), api.Msg{Kind: api.MsgSwapped, Epoch: 2, Seq: 1, Version: 2, Prev: 1, Code: api.ErrAbsent})
		b.fetches(t, order(2, 3))
		b.answers(t, what, swap(3, 2, 1), api.Msg{Kind: api.MsgSwapped, Epoch: 2, Seq: 1, Version: 3, Prev: 2})
		b.serves(t, what, 3)
	}
}

// Blocks and frames drawn by lot: whatever comes, each MsgGot is right.
func TestServedByLot(t *testing.T) {
	c := small(2)
	c.Block, c.Tries = 40, 4
	outcomes := map[string]int{}
	for seed := range 60 {
		lot := dice(seed)
		b := with(t, c, 0, ones(2, 1), 1, 2)
		for epoch := 2; epoch < 12; epoch++ {
			version := 1 + lot.roll(6)
			silentOr(t, b, order(epoch, version))
			for range 60 {
				w, e := b.Want()
				if e == api.ErrOver {
					break
				}
				if e == api.ErrWait {
					done(t, b.Tick())
					continue
				}
				text := piece(stock(t, c, 0, w.Version), w)
				switch lot.roll(25) {
				case 0:
					b.Feed(api.ErrLost, text, digest.CRC(text))
				case 1:
					b.feeds(spoilt(text, lot.roll(len(text))))
				case 2:
					b.feeds(text[lot.roll(len(text)):])
				case 3:
					b.Feed(api.OK, spoilt(text, lot.roll(len(text))), digest.CRC(text))
				case 4:
					other := piece(stock(t, c, 0, 1+lot.roll(6)), api.Want{File: "manifest"})
					b.feeds(other)
				default:
					b.feeds(text)
				}
			}
			before := b.Look().Has
			b.does(t, swap(version, epoch, 1))
			now := b.Look().Has
			outcomes[fmt.Sprint(slices.Contains(before.Have, version), now.Cur == version)]++
			b.serves(t, fmt.Sprintf("seed %d, epoch %d", seed, epoch), now.Cur)
		}
	}
	if outcomes["true true"] < 50 || outcomes["false false"] < 10 || outcomes["false true"] > 0 {
		t.Errorf("%v", outcomes)
	}
}

// silentOr posts a message and lets it be answered or not.
func silentOr(t *testing.T, b *bench, m api.Msg) {
	t.Helper()
	if n := len(b.does(t, m)); n > 1 {
		t.Fatalf("%d frames", n)
	}
}
