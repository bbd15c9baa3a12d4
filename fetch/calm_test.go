package fetch

import (
	"strings"
	"testing"

	"granary/api"
)

// P11.15

// bound is the most ticks that the blocks that are left take.
func bound(lim api.Limits, sizes []int) int {
	sum := 0
	for _, size := range sizes {
		for left := size; left > 0; left -= lim.Block {
			sum += (min(lim.Block, left)*lim.Per + lim.Rate - 1) / lim.Rate
		}
	}
	return sum
}

func sized(sizes []int) []api.Pair {
	var list []api.Pair
	for i, n := range sizes {
		list = append(list, api.Pair{Key: string(rune('a' + i)), Value: strings.Repeat(string(rune('A'+i)), n)})
	}
	return list
}

func TestCalm(t *testing.T) {
	for _, sizes := range [][]int{{1}, {4}, {5}, {3, 0, 8}, {4, 4, 4}, {9, 1, 7, 16}} {
		for block := 1; block <= 5; block++ {
			for _, burst := range []int{block, block + 1, 3 * block} {
				for _, rate := range []int{1, 2, 3, 5, 50} {
					for _, per := range []int{1, 2, 7} {
						lim := api.Limits{Block: block, Rate: rate, Per: per, Burst: burst, Tries: 64, Base: 1, Most: 1024, Quota: 100}
						j := begins(t, stored(t), dir, manifest(t, 5, sized(sizes)), lim)
						if ticks, most := feed(t, j, sized(sizes)), bound(lim, sizes); ticks > most {
							t.Errorf("%+v, %v: %d ticks, at most %d", lim, sizes, ticks, most)
						}
						is(t, "phase", j.State().Phase, api.FetchDone)
					}
				}
			}
		}
	}
}

// Where nothing lies in the bucket, and none of what trickles in is left over, it takes just so many ticks: one less is not enough.
func TestCalmToTheTick(t *testing.T) {
	for _, c := range []struct {
		lim   api.Limits
		sizes []int
		ticks int
	}{
		{api.Limits{Block: 4, Rate: 4, Per: 1, Burst: 4}, []int{10, 0, 3}, 4},    // 4, 4, 2 and 3 bytes, but for what is left of a tick
		{api.Limits{Block: 1, Rate: 1, Per: 7, Burst: 1}, []int{3, 2}, 35},       // seven ticks a byte
		{api.Limits{Block: 2, Rate: 5, Per: 1, Burst: 2}, []int{6}, 3},           // three of five tokens are lost each time
		{api.Limits{Block: 4096, Rate: 1, Per: 1, Burst: 4096}, []int{50}, 50},   // one block
		{api.Limits{Block: 4096, Rate: 3, Per: 2, Burst: 4096}, []int{50}, 34},   // a third of a tick is a tick
		{api.Limits{Block: 5, Rate: 3, Per: 2, Burst: 5}, []int{5, 5, 5, 5}, 16}, // ten parts each, three come a tick, and two of twelve are lost
	} {
		c.lim.Tries, c.lim.Base, c.lim.Most, c.lim.Quota = 64, 1, 1, 100
		list := sized(c.sizes)
		j := begins(t, stored(t), dir, manifest(t, 5, list), c.lim)
		for j.bucket.Level() > 0 {
			j.bucket.Take(1)
		}
		if most := bound(c.lim, c.sizes); c.ticks > most {
			t.Fatalf("%d ticks are more than %d", c.ticks, most)
		}
		is(t, "ticks", feed(t, j, list), c.ticks)
		is(t, "phase", j.State().Phase, api.FetchDone)
	}
}

// Ahead of them come the ticks till the next try may be made.
func TestCalmBehindFailures(t *testing.T) {
	list := sized([]int{9, 0, 5})
	for _, failures := range []int{1, 2, 5, 7} {
		for _, rate := range []int{1, 3, 100} {
			lim := api.Limits{Block: 4, Rate: rate, Per: 2, Burst: 6, Tries: 8, Base: 3, Most: 40, Quota: 100}
			j := begins(t, stored(t), dir, manifest(t, 5, list), lim)
			wait := 3
			for i := range failures {
				for {
					if _, e := j.Ask(); e == api.OK {
						break
					}
					done(t, j.Tick(1))
				}
				done(t, j.Miss())
				if i > 0 {
					wait = min(2*wait, 40)
				}
			}
			ticks := feed(t, j, list)
			if most := wait + bound(lim, []int{9, 0, 5}); ticks < wait || ticks > most {
				t.Errorf("%d failures, rate %d: %d ticks, want %d to %d", failures, rate, ticks, wait, most)
			}
			is(t, "phase", j.State().Phase, api.FetchDone)
		}
	}
}

// Forged bytes among the safe ones: the last block is answered by ErrWhole, once.
func TestCalmBehindForgedBlocks(t *testing.T) {
	list := sized([]int{10, 6})
	for _, forged := range [][]string{{"XXXX"}, {"AAAA", "AAAX"}, {"AXAA", "XXXX"}} {
		j := begins(t, stored(t), dir, manifest(t, 5, list), ample(4))
		for _, data := range forged {
			gives(t, j, data)
		}
		wholes := 0
		for ticks := 0; j.State().Phase == api.FetchRunning && ticks < 20; {
			w, e := j.Ask()
			if e != api.OK {
				done(t, j.Tick(1))
				ticks++
				continue
			}
			data := right(list, w)
			if e := j.Put(data, crc(data)); e == api.ErrWhole {
				wholes++
			} else if e != api.OK {
				t.Fatalf("Put: %d", e)
			}
		}
		is(t, "ErrWhole", wholes, 1)
		is(t, "phase", j.State().Phase, api.FetchDone)
	}
}

// Behind a crash it is calm, too: what is left is what was not safe.
func TestCalmBehindACrash(t *testing.T) {
	list := sized([]int{10, 6})
	lim := api.Limits{Block: 4, Rate: 1, Per: 1, Burst: 4, Tries: 2, Base: 1, Most: 1, Quota: 100}
	d := stored(t)
	j := begins(t, d, dir, manifest(t, 5, list), lim)
	gives(t, j, "AAAA")
	d.Crash(0, 0)
	j = begins(t, d, dir, manifest(t, 5, list), lim)
	is(t, "ticks", feed(t, j, list), 2+4+2) // the first of the blocks 4, 2, 4, 2 finds a full bucket
	is(t, "phase", j.State().Phase, api.FetchDone)
}
