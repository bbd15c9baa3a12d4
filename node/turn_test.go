package node

import (
	"fmt"
	"slices"
	"strings"
	"testing"

	"granary/api"
	"granary/digest"
	"granary/engine"
	"granary/frame"
)

// P14.5

// gone holds that a frame is taken out, and that nothing comes of it.
func gone(t *testing.T, what string, b *bench, text string) {
	t.Helper()
	ahead := b.Look()
	calm(t, what, b.d, func() {
		done(t, b.Post(text))
		silent(t, what, b.Turn())
	})
	same(t, what, b.Look(), ahead)
}

func TestNoFrames(t *testing.T) {
	b := with(t, east(), 1, ones(2, 1), 1, 2)
	good := framed(t, api.Msg{Kind: api.MsgSwap, From: 64, To: 1, Epoch: 5, Seq: 1, Version: 1})
	for _, text := range []string{"", "x", "G", "GR\x01", good + good, good + "x", "x" + good, good[1:], good[:len(good)-1], strings.Repeat(good, 1000)} {
		gone(t, fmt.Sprintf("%.40q", text), b, text)
	}
	for at := range good {
		for bit := range 8 {
			spoilt := []byte(good)
			spoilt[at] ^= 1 << bit
			gone(t, fmt.Sprintf("byte %d, bit %d", at, bit), b, string(spoilt))
		}
	}
	b.answers(t, "the frame itself", swap(1, 5, 1), api.Msg{Kind: api.MsgSwapped, Epoch: 5, Seq: 1, Version: 1, Prev: 2})
}

// full are messages of all kinds, with something in each field that the kind has.
func full(from, to int) []api.Msg {
	var list []api.Msg
	for kind := api.MsgPing; kind <= api.MsgScanned; kind++ {
		m := api.Msg{Kind: kind, From: from, To: to, Id: 3}
		for _, set := range []func(m *api.Msg){
			func(m *api.Msg) { m.Epoch = 9 },
			func(m *api.Msg) { m.Seq = 1 },
			func(m *api.Msg) { m.Version = 1 },
			func(m *api.Msg) { m.Prev = 1 },
			func(m *api.Msg) { m.Code = api.ErrStale },
			func(m *api.Msg) { m.Key = "abc" },
			func(m *api.Msg) { m.Value = "v" },
		} {
			with := m
			set(&with)
			if _, e := frame.Encode(with); e == api.OK {
				m = with
			}
		}
		list = append(list, m)
	}
	return list
}

func TestMessagesToOthers(t *testing.T) {
	b := with(t, east(), 1, ones(2, 1), 1, 2)
	for _, to := range []int{0, 2, 3, 16, 64, 65, 66, 67, 257, 65535} {
		for _, m := range full(64, to) {
			gone(t, fmt.Sprintf("%+v", m), b, framed(t, m))
		}
	}
}

// Kinds that a node does not take, whoever they are from.
func TestOtherKinds(t *testing.T) {
	b := with(t, east(), 1, ones(2, 1), 1, 2)
	b.begun(t, order(7, 3))
	taken := []int{api.MsgPing, api.MsgAsk, api.MsgGet, api.MsgSum, api.MsgScan, api.MsgSwap, api.MsgBack, api.MsgFetch}
	for _, from := range []int{0, 1, 2, 64, 65, 66, 67, 65535} {
		for _, m := range full(from, 1) {
			if !slices.Contains(taken, m.Kind) {
				gone(t, fmt.Sprintf("%+v", m), b, framed(t, m))
			}
		}
	}
	for kind := 0; kind <= 255; kind++ { // frames of no kind, their sums fitting
		text := framed(t, api.Msg{Kind: api.MsgPing, From: 64, To: 1})
		if kind >= api.MsgPing && kind <= api.MsgScanned {
			continue
		}
		body := text[:3] + string([]byte{byte(kind)}) + text[4:20]
		sum := digest.CRC(body)
		gone(t, "no kind", b, body+string([]byte{byte(sum), byte(sum >> 8), byte(sum >> 16), byte(sum >> 24)}))
	}
}

// An answer goes back to where the message came from, with its Id, whatever these are; each turn takes one frame.
func TestWhoIsAnswered(t *testing.T) {
	b := with(t, east(), 1, ones(2, 1), 1, 2)
	for _, from := range []int{0, 1, 2, 15, 64, 65, 66, 67, 68, 65535} {
		for _, id := range []int{0, 1, 7, most} {
			for _, m := range full(from, 1) {
				m.Id = id
				calls := map[int]int{api.MsgPing: api.MsgPong, api.MsgAsk: api.MsgTold, api.MsgGet: api.MsgGot, api.MsgSum: api.MsgSummed, api.MsgScan: api.MsgScanned, api.MsgSwap: api.MsgSwapped, api.MsgBack: api.MsgBacked, api.MsgFetch: api.MsgFetched}
				kind, ok := calls[m.Kind]
				if !ok {
					continue
				}
				m.Version = min(m.Version, 1)
				done(t, b.Post(framed(t, m)), b.Post("behind it"))
				frames := b.Turn()
				if len(frames) != 1 {
					t.Fatalf("%+v: %d frames", m, len(frames))
				}
				got, e := frame.Decode(frames[0])
				if got.Kind != kind || got.From != 1 || got.To != from || got.Id != id || e != api.OK {
					t.Errorf("%+v: %+v, %d", m, got, e)
				}
				is(t, "Inbox", b.Look().Inbox, 1)
				silent(t, "behind it", b.Turn())
			}
		}
	}
}

func TestPing(t *testing.T) {
	b := second(t)
	calm(t, "MsgPing", b.d, func() {
		m := api.Msg{Kind: api.MsgPing, From: 64, Id: most}
		b.answers(t, "MsgPing", m, api.Msg{Kind: api.MsgPong})
	})
}

func TestAsk(t *testing.T) {
	for _, p := range []api.Pointer{{}, ones(2, 1), ones(1, 2), ones(2, 0), {Cur: 1, Prev: 1, Epoch: 8, Seq: 2}, {Cur: 0, Prev: 0, Epoch: 4, Seq: 2}, {Cur: 2, Prev: 999999, Epoch: most, Seq: most}} {
		b := with(t, east(), 1, p, 1, 2)
		calm(t, "MsgAsk", b.d, func() { b.answers(t, "MsgAsk", ask(), told(p.Cur, p.Prev, p.Epoch, p.Seq)) })
	}
}

func TestGet(t *testing.T) {
	b := with(t, east(), 1, ones(2, 1), 1, 2, 3)
	mine, foreign := keyOf(t, east(), 1, true), keyOf(t, east(), 1, false)
	calm(t, "MsgGet", b.d, func() {
		b.serves(t, "version 2", 2)
		b.answers(t, "no such key", get(mine), api.Msg{Kind: api.MsgGot, Key: mine, Version: 2, Code: api.ErrNoKey})
		b.answers(t, "another's", get(foreign), api.Msg{Kind: api.MsgGot, Key: foreign, Code: api.ErrForeign})
		b.answers(t, "no key", get(""), api.Msg{Kind: api.MsgGot, Code: api.ErrKey})
	})
	empty := with(t, east(), 1, api.Pointer{}, 1, 2)
	for _, key := range []string{"", "abc", mine, foreign} {
		empty.answers(t, "nothing is current", get(key), api.Msg{Kind: api.MsgGot, Key: key, Code: api.ErrEmpty})
	}
}

// The longest key and the longest value fit into a frame.
func TestGetLongest(t *testing.T) {
	c := small(1)
	pair := api.Pair{Key: strings.Repeat("k", api.MaxKey), Value: strings.Repeat("v", api.MaxValue)}
	files := stocked(t, c, 0, 1, []api.Pair{pair, {Key: "empty"}})
	b := at(t, c, 0)
	b.takes(t, "MsgFetch", order(1, 1))
	frames, _ := b.pulls(t, files)
	b.hears(t, "MsgFetched", frames, order(1, 1), ended(1, 1, api.OK))
	b.answers(t, "MsgSwap", swap(1, 1, 1), api.Msg{Kind: api.MsgSwapped, Epoch: 1, Seq: 1, Version: 1})
	b.answers(t, "MsgGet", get(pair.Key), api.Msg{Kind: api.MsgGot, Version: 1, Key: pair.Key, Value: pair.Value})
	b.answers(t, "an empty value", get("empty"), api.Msg{Kind: api.MsgGot, Version: 1, Key: "empty"})
	found := 0
	for at := range 2 {
		m := api.Msg{Kind: api.MsgScan, From: 67, Version: 1, Prev: at}
		frames := b.does(t, m)
		got, e := frame.Decode(frames[0])
		done(t, e)
		if got.Key == pair.Key && got.Value == pair.Value {
			found++
		}
	}
	is(t, "scanned", found, 1)
}

// pairsOf is what a version has in a partition, as the engine tells it.
func pairsOf(t *testing.T, b *bench, version, part int) []api.Pair {
	t.Helper()
	x, e := engine.Open(b.d, b.c, b.id)
	done(t, e)
	var list []api.Pair
	for i := 0; ; i++ {
		p, e := x.Entry(version, part, i)
		if e != api.OK {
			return list
		}
		list = append(list, p)
	}
}

func TestSumAndScan(t *testing.T) {
	b := with(t, east(), 1, ones(2, 1), 1, 2)
	sum := func(version, part int) api.Msg {
		return api.Msg{Kind: api.MsgSum, From: 66, Id: 4, Version: version, Seq: part}
	}
	scan := func(version, part, at int) api.Msg {
		return api.Msg{Kind: api.MsgScan, From: 67, Id: 4, Version: version, Seq: part, Prev: at}
	}
	pairs := 0
	calm(t, "MsgSum and MsgScan", b.d, func() {
		for version := 1; version <= 2; version++ {
			for part := range 2 {
				list := pairsOf(t, b, version, part)
				pairs += len(list)
				text := ""
				for i, p := range list {
					b.answers(t, "MsgScan", scan(version, part, i), api.Msg{Kind: api.MsgScanned, Version: version, Seq: part, Prev: i, Key: p.Key, Value: p.Value})
					text += string([]byte{0, byte(len(p.Key)), 0, 0, 0, byte(len(p.Value))}) + p.Key + p.Value
				}
				for _, i := range []int{len(list), len(list) + 1, most} {
					b.answers(t, "behind the end", scan(version, part, i), api.Msg{Kind: api.MsgScanned, Version: version, Seq: part, Prev: i, Code: api.ErrEnd})
				}
				b.answers(t, "MsgSum", sum(version, part), api.Msg{Kind: api.MsgSummed, Version: version, Seq: part, Prev: len(list), Value: digest.MD5(text)})
			}
			for part, e := range map[int]api.Errno{2: api.ErrForeign, 3: api.ErrForeign, 4: api.ErrPart, most: api.ErrPart} {
				b.answers(t, "MsgSum", sum(version, part), api.Msg{Kind: api.MsgSummed, Version: version, Seq: part, Code: e})
				b.answers(t, "MsgScan", scan(version, part, 1), api.Msg{Kind: api.MsgScanned, Version: version, Seq: part, Prev: 1, Code: e})
			}
		}
		for _, version := range []int{0, 3, last, last + 1, most} {
			b.answers(t, "MsgSum", sum(version, 1), api.Msg{Kind: api.MsgSummed, Version: version, Seq: 1, Code: api.ErrAbsent})
			b.answers(t, "MsgScan", scan(version, 1, 2), api.Msg{Kind: api.MsgScanned, Version: version, Seq: 1, Prev: 2, Code: api.ErrAbsent})
		}
	})
	is(t, "pairs", pairs, 13)
}

func TestSwap(t *testing.T) {
	for _, x := range []struct {
		m         api.Msg
		code      api.Errno
		cur, prev int
	}{
		{swap(3, 4, 1), api.ErrStale, 2, 1}, // below the fence (5, 3)
		{swap(3, 5, 2), api.ErrStale, 2, 1},
		{swap(3, 0, most), api.ErrStale, 2, 1},
		{swap(2, 5, 3), api.OK, 2, 1}, // at it
		{swap(3, 5, 3), api.ErrStale, 2, 1},
		{swap(3, 5, 4), api.OK, 3, 2}, // above it
		{swap(3, 6, 0), api.OK, 3, 2},
		{swap(1, 6, 1), api.OK, 1, 2},
		{swap(2, 6, 1), api.OK, 2, 2},
		{swap(3, most, most), api.OK, 3, 2},
		{swap(4, 6, 1), api.ErrAbsent, 2, 1},
		{swap(last, 6, 1), api.ErrAbsent, 2, 1},
		{swap(0, 6, 1), api.ErrVersion, 2, 1},
		{swap(last+1, 6, 1), api.ErrVersion, 2, 1},
		{swap(most, 4, 1), api.ErrVersion, 2, 1}, // two things are wrong
		{swap(4, 4, 1), api.ErrStale, 2, 1},
	} {
		b := with(t, east(), 1, api.Pointer{Cur: 2, Prev: 1, Epoch: 5, Seq: 3}, 1, 2, 3)
		what := fmt.Sprintf("%+v", x.m)
		acts := b.d.Acts()
		b.answers(t, what, x.m, api.Msg{Kind: api.MsgSwapped, Epoch: x.m.Epoch, Seq: x.m.Seq, Version: x.cur, Prev: x.prev, Code: x.code})
		epoch, seq := 5, 3
		if x.code == api.OK && (x.m.Epoch != 5 || x.m.Seq != 3) {
			epoch, seq = x.m.Epoch, x.m.Seq
			is(t, what+": acts", b.d.Acts()-acts, 5)
		} else {
			is(t, what+": acts", b.d.Acts()-acts, 0)
		}
		b.answers(t, what, ask(), told(x.cur, x.prev, epoch, seq))
		b.serves(t, what, x.cur)
		b.again(t)
		b.answers(t, what+", and a boot", ask(), told(x.cur, x.prev, epoch, seq))
	}
}

// A swap lets a fetch go on.
func TestSwapLeavesTheFetch(t *testing.T) {
	b := with(t, east(), 1, ones(2, 1), 1, 2)
	b.begun(t, order(2, 3))
	b.answers(t, "MsgSwap", swap(1, 9, 1), api.Msg{Kind: api.MsgSwapped, Epoch: 9, Seq: 1, Version: 1, Prev: 2})
	is(t, "Fetch", b.Look().Fetch.Version, 3)
	frames, _ := b.pulls(t, stock(t, east(), 1, 3))
	b.hears(t, "MsgFetched", frames, order(2, 3), ended(2, 3, api.OK))
}

func TestBack(t *testing.T) {
	for _, x := range []struct {
		m         api.Msg
		code      api.Errno
		cur, prev int
	}{
		{back(4, 9), api.ErrStale, 2, 1}, // below the fence (5, 3)
		{back(5, 2), api.ErrStale, 2, 1},
		{back(0, 0), api.ErrStale, 2, 1},
		{back(5, 3), api.OK, 2, 1}, // at it
		{back(5, 4), api.OK, 1, 1}, // above it, of the fence's epoch
		{back(5, most), api.OK, 1, 1},
		{back(6, 0), api.OK, 2, 2}, // of a later one
		{back(6, 2), api.OK, 2, 2},
		{back(most, most), api.OK, 2, 2},
	} {
		b := with(t, east(), 1, api.Pointer{Cur: 2, Prev: 1, Epoch: 5, Seq: 3}, 1, 2, 3)
		what := fmt.Sprintf("%+v", x.m)
		b.answers(t, what, x.m, api.Msg{Kind: api.MsgBacked, Epoch: x.m.Epoch, Seq: x.m.Seq, Version: x.cur, Prev: x.prev, Code: x.code})
		epoch, seq := 5, 3
		if x.code == api.OK {
			epoch, seq = x.m.Epoch, x.m.Seq
		}
		b.answers(t, what, ask(), told(x.cur, x.prev, epoch, seq))
		b.serves(t, what, x.cur)
	}
	lacks := with(t, east(), 1, api.Pointer{Cur: 2, Prev: 7, Epoch: 5, Seq: 3}, 2)
	lacks.answers(t, "it has not the version", back(5, 4), api.Msg{Kind: api.MsgBacked, Epoch: 5, Seq: 4, Version: 2, Prev: 7, Code: api.ErrAbsent})
	none := with(t, east(), 1, ones(2, 0), 2)
	none.answers(t, "back to none", back(1, 2), api.Msg{Kind: api.MsgBacked, Epoch: 1, Seq: 2})
	none.answers(t, "nothing is current", get("abc"), api.Msg{Kind: api.MsgGot, Key: "abc", Code: api.ErrEmpty})
}

// A MsgBack lets go of a fetch that is not of a later epoch, if it is carried out, and of no other; after the manifest, and with a job.
func TestBackAndTheFetch(t *testing.T) {
	for _, x := range []struct {
		m    api.Msg
		code api.Errno
		goes bool
	}{
		{back(6, 2), api.OK, false}, // below the fetch's epoch, 7
		{back(7, 2), api.OK, true},  // at it
		{back(8, 2), api.OK, true},  // above it
		{back(most, 0), api.OK, true},
		{back(5, 3), api.OK, false}, // the fence itself
		{back(5, 4), api.OK, false},
		{back(5, 2), api.ErrStale, false},
		{back(4, 9), api.ErrStale, false},
	} {
		for _, job := range []bool{false, true} {
			b := with(t, east(), 1, api.Pointer{Cur: 2, Prev: 1, Epoch: 5, Seq: 3}, 1, 2)
			b.takes(t, "MsgFetch", order(7, 3))
			if job {
				silent(t, "the manifest", b.fed(t, stock(t, east(), 1, 3)))
				silent(t, "a block", b.fed(t, stock(t, east(), 1, 3)))
			}
			ahead := b.Look().Fetch
			b.wants(t)
			what := fmt.Sprintf("%+v, a job: %v", x.m, job)
			got, e := frame.Decode(b.does(t, x.m)[0]) // one frame: nothing is answered for the fetch
			is(t, what, got.Code, x.code)
			done(t, e)
			if !x.goes {
				b.fetchIs(t, what, ahead)
				frames, _ := b.pulls(t, stock(t, east(), 1, 3))
				b.hears(t, what, frames, order(7, 3), ended(7, 3, api.OK))
				continue
			}
			b.fetchIs(t, what, api.FetchState{})
			b.wantIs(t, what, api.Want{}, api.ErrOver)
			silent(t, what, b.Feed(api.ErrUnbuilt, "", 0))
			is(t, what+": the directory", there(b.d, "store/fetch-3"), job)
			// Of a later epoch it may be fetched again, and goes on where it was.
			b.takes(t, what, order(min(x.m.Epoch+1, most), 3))
			silent(t, what, b.fed(t, stock(t, east(), 1, 3)))
			is(t, what+": Got", b.Look().Fetch.Got, ahead.Got)
		}
	}
}

// One that the node may not carry out leaves the fetch, of whatever epoch.
func TestBackIsRefused(t *testing.T) {
	b := with(t, east(), 1, api.Pointer{Cur: 2, Prev: 7, Epoch: 5, Seq: 0}, 2)
	b.takes(t, "MsgFetch", order(5, 3))
	b.answers(t, "ErrAbsent", back(5, 4), api.Msg{Kind: api.MsgBacked, Epoch: 5, Seq: 4, Version: 2, Prev: 7, Code: api.ErrAbsent})
	b.fetchIs(t, "ErrAbsent", after(3))
	full := with(t, east(), 1, ones(2, 1), 1, 2)
	full.takes(t, "MsgFetch", order(1, 3))
	fill(t, full.d, 3)
	full.answers(t, "ErrFull", back(1, 2), api.Msg{Kind: api.MsgBacked, Epoch: 1, Seq: 2, Version: 2, Prev: 1, Code: api.ErrFull})
	full.fetchIs(t, "ErrFull", after(3))
	full.answers(t, "ErrFull", swap(1, 2, 1), api.Msg{Kind: api.MsgSwapped, Epoch: 2, Seq: 1, Version: 2, Prev: 1, Code: api.ErrFull})
	full.serves(t, "as it was", 2)
	away(t, full.d, "fill")
	full.answers(t, "room", back(1, 2), api.Msg{Kind: api.MsgBacked, Epoch: 1, Seq: 2, Version: 1, Prev: 1})
	full.fetchIs(t, "no more", api.FetchState{})
}

// An engine that is stuck says so in every answer, and what it has is nothing. A boot mends it.
func TestStuck(t *testing.T) {
	b := with(t, east(), 1, ones(2, 1), 1, 2)
	b.takes(t, "MsgFetch", order(2, 3))
	put(t, b.d, "store/latest.new", "somebody's")
	b.answers(t, "MsgSwap", swap(1, 2, 1), api.Msg{Kind: api.MsgSwapped, Epoch: 2, Seq: 1, Code: api.ErrThere})
	is(t, "Up", b.Up(), true)
	b.answers(t, "MsgSwap", swap(1, 3, 1), api.Msg{Kind: api.MsgSwapped, Epoch: 3, Seq: 1, Code: api.ErrStuck})
	b.answers(t, "MsgBack", back(3, 1), api.Msg{Kind: api.MsgBacked, Epoch: 3, Seq: 1, Code: api.ErrStuck})
	b.answers(t, "MsgAsk", ask(), told(0, 0, 0, 0))
	b.answers(t, "MsgGet", get("abc"), api.Msg{Kind: api.MsgGot, Key: "abc", Code: api.ErrStuck})
	b.answers(t, "MsgSum", api.Msg{Kind: api.MsgSum, Version: 2, Seq: 1}, api.Msg{Kind: api.MsgSummed, Version: 2, Seq: 1, Code: api.ErrStuck})
	b.answers(t, "MsgScan", api.Msg{Kind: api.MsgScan, Version: 2, Seq: 1, Prev: 3}, api.Msg{Kind: api.MsgScanned, Version: 2, Seq: 1, Prev: 3, Code: api.ErrStuck})
	b.answers(t, "MsgPing", api.Msg{Kind: api.MsgPing}, api.Msg{Kind: api.MsgPong})
	same(t, "Look", b.Look(), api.NodeView{Id: 1, Up: true, Fetch: after(3)})
	b.takes(t, "the fetch is taken over", order(2, 3))
	b.answers(t, "MsgFetch", order(2, 2), ended(2, 2, api.ErrStuck))
	b.fetchIs(t, "no more", api.FetchState{})
	b.again(t)
	b.answers(t, "a boot", ask(), told(2, 1, 1, 1))
	b.serves(t, "a boot", 2)
}
