package export

import (
	"fmt"
	"strings"
	"testing"

	"granary/api"
)

// P21.3

// midst is an exporter of six nodes in the midst of an export: the partitions 0 and 1 are behind; of 2, whose row is 2, 3, 4, two pairs were read, the node 2 was left, node 3 is asked.
func midst(t *testing.T) *Export {
	t.Helper()
	x := made(t, round(6, 3, 2))
	begins(t, x, one, 0)
	whole(t, x, one, 0, 0, 3, one.ask(1, 1, 0))
	whole(t, x, one, 1, 1, 1, one.ask(2, 2, 0))
	reads(t, x, one, 2, 2, 0, 2)
	takeIs(t, x, one.no(2, 2, 2, api.ErrContent), one.ask(3, 2, 2))
	return x
}

// What differs from the answer in one of the fields that count is none, and does nothing, whatever it says.
func TestNoAnswer(t *testing.T) {
	right := one.give(3, 2, 2, at(2, 2))
	var wrong []api.Msg
	turn := func(change func(m *api.Msg)) {
		m := right
		change(&m)
		wrong = append(wrong, m)
	}
	numbers := []int{leastInt, -3, -2, -1, 0, 1, 2, 3, 4, 5, 6, 7, 8, 9, 10, 11, 12, 13, 14, 15, 16, 17, 64, 65, 66, 67, 68, 511, 512, 513, 1 << 32, 1<<32 + 1, 1<<32 + 2, 1<<32 + 3, 1<<32 + 7, 1<<32 + 16, mostInt}
	for _, n := range numbers {
		if n != right.Kind {
			turn(func(m *api.Msg) { m.Kind = n })
		}
		if n != right.Id {
			turn(func(m *api.Msg) { m.Id = n })
		}
		if n != right.From { // -1, an owner that was left, one that comes later, nodes that are no owners, the number of nodes, addresses
			turn(func(m *api.Msg) { m.From = n })
		}
		if n != right.Seq { // partitions ahead of it and behind it, and none
			turn(func(m *api.Msg) { m.Seq = n })
		}
		if n != right.Version {
			turn(func(m *api.Msg) { m.Version = n })
		}
		if n != right.Prev {
			turn(func(m *api.Msg) { m.Prev = n })
		}
	}
	x := midst(t)
	for _, m := range wrong {
		for _, code := range []api.Errno{api.OK, api.ErrEnd, api.ErrAbsent} {
			m.Code = code
			stays(t, x, func() { takeIs(t, x, m) })
		}
	}
	takeIs(t, x, right, one.ask(3, 2, 3))
	is(t, "messages", len(wrong), 6*(len(numbers)-1))
}

// Two fields that are off do not make up for one another.
func TestTwoFieldsOff(t *testing.T) {
	x := midst(t)
	fields := []func(m *api.Msg, by int){
		func(m *api.Msg, by int) { m.Kind += by }, func(m *api.Msg, by int) { m.From += by }, func(m *api.Msg, by int) { m.Id += by },
		func(m *api.Msg, by int) { m.Seq += by }, func(m *api.Msg, by int) { m.Version += by }, func(m *api.Msg, by int) { m.Prev += by },
	}
	for i := range fields {
		for j := range i {
			for _, by := range []int{-1, 1} {
				for _, code := range []api.Errno{api.OK, api.ErrEnd, api.ErrAbsent} {
					m := one.no(3, 2, 2, code)
					fields[i](&m, by)
					fields[j](&m, -by)
					stays(t, x, func() { takeIs(t, x, m) })
					fields[j](&m, 2*by)
					stays(t, x, func() { takeIs(t, x, m) })
				}
			}
		}
	}
	takeIs(t, x, one.end(3, 2, 2), one.ask(3, 3, 0))
}

// To and Epoch make no difference, with any code; nor do Key and Value, where no pair is read.
func TestFieldsThatDoNotCount(t *testing.T) {
	for _, n := range []int{leastInt, -1, 0, 1, 2, 3, 64, 65, 66, 67, 1 << 32, mostInt} {
		for _, text := range []string{"", "k", strings.Repeat("\xff", 5000)} {
			x, plain := midst(t), midst(t)
			both := func(m api.Msg, want ...api.Msg) {
				t.Helper()
				takeIs(t, plain, m, want...)
				m.To, m.Epoch = n, n
				if m.Code != api.OK {
					m.Key, m.Value = text, text
				}
				takeIs(t, x, m, want...)
				is(t, "what it knows", kept(x), kept(plain))
			}
			both(one.give(3, 2, 2, at(2, 2)), one.ask(3, 2, 3))
			both(one.no(3, 2, 3, api.ErrDown), one.ask(4, 2, 3))
			both(one.end(4, 2, 3), one.ask(3, 3, 0))
			both(one.no(3, 3, 0, api.ErrEmpty), one.ask(4, 3, 0))
		}
	}
}

// The same answer twice counts once: behind it another question is the one.
func TestTwice(t *testing.T) {
	for _, code := range []api.Errno{api.OK, api.ErrEnd, api.ErrAbsent} {
		x := midst(t)
		m := one.no(3, 2, 2, code)
		list, e := x.Take(m)
		is(t, "Take", e, api.OK)
		is(t, "questions", len(list), 1)
		for _, again := range []api.Errno{api.OK, api.ErrEnd, api.ErrAbsent} { // what it says now comes too late
			m.Code = again
			stays(t, x, func() { takeIs(t, x, m) })
		}
	}
	x := begun(t)
	for k := range 5 {
		takeIs(t, x, one.give(0, 0, k, at(0, k)), one.ask(0, 0, k+1))
		for earlier := range k + 1 {
			stays(t, x, func() { takeIs(t, x, one.give(0, 0, earlier, abc)); takeIs(t, x, one.end(0, 0, earlier)) })
		}
	}
	takeIs(t, x, one.end(0, 0, 5), one.ask(1, 1, 0))
	idles(t, x)
	reportIs(t, x, one, crop(0, 5), 1, 2, 3)
}

// An owner that was left is not heard any more, whether it was left for its silence or for what it answered; nor is one that is not asked yet.
func TestLateAnswersOfAnOwner(t *testing.T) {
	leave := map[string]func(x *Export){
		"silence":     func(x *Export) { wait(t, x, 1); tickIs(t, x, one.ask(1, 0, 2)) },
		"a bad word":  func(x *Export) { takeIs(t, x, one.no(0, 0, 2, api.ErrAbsent), one.ask(1, 0, 2)) },
		"another one": func(x *Export) { takeIs(t, x, one.no(0, 0, 2, -5), one.ask(1, 0, 2)) },
	}
	for what, do := range leave {
		x := made(t, pace(2))
		begins(t, x, one, 0)
		reads(t, x, one, 0, 0, 0, 2)
		for k := range 4 {
			stays(t, x, func() { takeIs(t, x, one.give(1, 0, k, abc)); takeIs(t, x, one.end(1, 0, k)) })
		}
		do(x)
		for k := range 4 {
			stays(t, x, func() {
				takeIs(t, x, one.give(0, 0, k, abc))
				takeIs(t, x, one.end(0, 0, k))
				takeIs(t, x, one.no(0, 0, k, api.ErrAbsent))
			})
		}
		takeIs(t, x, one.give(1, 0, 2, at(0, 2)), one.ask(1, 0, 3))
		takeIs(t, x, one.end(1, 0, 3), one.ask(1, 1, 0))
		idles(t, x)
		reportIs(t, x, one, crop(0, 3), 1, 2, 3)
		if t.Failed() {
			t.Fatal(what)
		}
	}
}

// Late answers of the export before do nothing in the next one, though owner, partition, version and place are right; nor do those of one that has not begun yet.
func TestLateAnswersOfAnExport(t *testing.T) {
	x := begun(t)
	takeIs(t, x, one.give(0, 0, 0, abc), one.ask(0, 0, 1))
	idles(t, x)
	reportIs(t, x, one, nil, 0, 1, 2, 3)
	none := func(node, part, k int) {
		t.Helper()
		for _, job := range []int{-1, 0, 1, 3} {
			r := run{job, 7}
			for _, m := range []api.Msg{r.give(node, part, k, abc), r.end(node, part, k), r.no(node, part, k, api.ErrAbsent)} {
				stays(t, x, func() { takeIs(t, x, m) })
			}
		}
	}
	next := run{2, 7}
	none(0, 0, 0)
	stays(t, x, func() { takeIs(t, x, next.end(0, 0, 0)) })
	begins(t, x, next, 0)
	none(0, 0, 0)
	takeIs(t, x, next.give(0, 0, 0, at(0, 0)), next.ask(0, 0, 1))
	none(0, 0, 1)
	takeIs(t, x, next.end(0, 0, 1), next.ask(1, 1, 0))
	none(1, 1, 0)
	idles(t, x)
	reportIs(t, x, next, crop(0, 1), 1, 2, 3)
	none(0, 3, 0)
	stays(t, x, func() { takeIs(t, x, next.end(0, 3, 0)) })
}

// With any error but ErrEnd the owner is left, whatever stands beside it, and at whatever place.
func TestErrors(t *testing.T) {
	for _, code := range codes {
		for k := range 3 {
			for _, p := range []api.Pair{{}, abc, at(0, k)} {
				x := begun(t)
				reads(t, x, one, 0, 0, 0, k)
				m := one.give(0, 0, k, p)
				m.Code = code
				takeIs(t, x, m, one.ask(1, 0, k)) // the pairs that were read stay, what stands beside the error is none
				reads(t, x, one, 1, 0, k, 3)
				m = one.give(1, 0, 3, p)
				m.Code = code
				takeIs(t, x, m, one.ask(1, 1, 0)) // and with the last owner they go
				takeIs(t, x, one.end(1, 1, 0), one.ask(2, 2, 0))
				idles(t, x)
				reportIs(t, x, one, nil, 0, 2, 3)
			}
		}
		if t.Failed() {
			t.Fatalf("the code %d", code)
		}
	}
}

// ErrEnd at once, behind one pair, behind many and behind the most.
func TestEnds(t *testing.T) {
	for _, n := range []int{0, 1, 2, 3, 100, 511, 512} {
		for part := range 4 {
			x := begun(t)
			var want []api.Pair
			for p, row := range eastRows() {
				count := 0
				if p == part {
					count = n
				}
				var next []api.Msg
				if p < 3 {
					next = []api.Msg{one.ask(eastRows()[p+1][0], p+1, 0)}
				}
				is(t, "Busy", x.Busy(), true)
				whole(t, x, one, row[0], p, count, next...)
				want = append(want, crop(p, count)...)
			}
			reportIs(t, x, one, want)
		}
	}
}

// The pair behind MaxPairs - 1 is read; one behind MaxPairs is none: the owner is left, and so are all that say there is more.
func TestMaxPairs(t *testing.T) {
	x := made(t, round(3, 3, 2))
	begins(t, x, one, 0)
	reads(t, x, one, 0, 0, 0, 511)
	takeIs(t, x, one.give(0, 0, 511, at(0, 511)), one.ask(0, 0, 512))
	stays(t, x, func() { takeIs(t, x, one.give(0, 0, 513, abc)); takeIs(t, x, one.give(0, 0, 511, abc)) })
	takeIs(t, x, one.give(0, 0, 512, abc), one.ask(1, 0, 512))
	takeIs(t, x, one.give(1, 0, 512, abc), one.ask(2, 0, 512))
	takeIs(t, x, one.give(2, 0, 512, abc), one.ask(1, 1, 0))
	reads(t, x, one, 1, 1, 0, 512)
	takeIs(t, x, one.give(1, 1, 512, abc), one.ask(2, 1, 512))
	takeIs(t, x, one.give(2, 1, 512, abc), one.ask(0, 1, 512))
	takeIs(t, x, one.end(0, 1, 512), one.ask(2, 2, 0)) // one that says there are no more is enough
	reads(t, x, one, 2, 2, 0, 300)
	takeIs(t, x, one.no(2, 2, 300, api.ErrDown), one.ask(0, 2, 300))
	reads(t, x, one, 0, 2, 300, 512)
	takeIs(t, x, one.end(0, 2, 512))
	reportIs(t, x, one, append(crop(1, 512), crop(2, 512)...), 0)
}

// As many pairs as can be in all.
func TestTheMostPairs(t *testing.T) {
	x := made(t, cluster(1, 1, upto(64)))
	begins(t, x, one, 0)
	var want []api.Pair
	for part := range 64 {
		var next []api.Msg
		if part < 63 {
			next = []api.Msg{one.ask(0, part+1, 0)}
		}
		whole(t, x, one, 0, part, 512, next...)
		want = append(want, crop(part, 512)...)
	}
	reportIs(t, x, one, want)
}

// Pairs are told as they came: empty ones, long ones, of any bytes, the same ones again.
func TestPairs(t *testing.T) {
	pairs := []api.Pair{
		{}, {Key: "k"}, {Value: "v"}, {Key: "k", Value: "w"}, {Key: "k", Value: "w"}, {Key: "\x00\xff", Value: "\n=\xc3"},
		{Key: strings.Repeat("k", 255), Value: strings.Repeat("v", 4096)}, {Key: strings.Repeat("\xfe", 256), Value: strings.Repeat("\x00", 1<<20)}, {Key: "a"},
	}
	x := begun(t)
	for k, p := range pairs {
		takeIs(t, x, one.give(0, 0, k, p), one.ask(0, 0, k+1))
	}
	takeIs(t, x, one.end(0, 0, len(pairs)), one.ask(1, 1, 0))
	for k, p := range pairs { // the same in another partition: each is told there too
		takeIs(t, x, one.give(1, 1, k, p), one.ask(1, 1, k+1))
	}
	takeIs(t, x, one.end(1, 1, len(pairs)), one.ask(2, 2, 0))
	idles(t, x)
	reportIs(t, x, one, append(append([]api.Pair{}, pairs...), pairs...), 2, 3)
}

// What an ErrEnd or another error has beside it is no pair.
func TestNoPairBesideAnError(t *testing.T) {
	x := begun(t)
	m := one.end(0, 0, 0)
	m.Key, m.Value = "k", "v"
	takeIs(t, x, m, one.ask(1, 1, 0))
	m = one.no(1, 1, 0, api.ErrNoKey)
	m.Key, m.Value = "k", "v"
	takeIs(t, x, m, one.ask(0, 1, 0))
	takeIs(t, x, one.end(0, 1, 0), one.ask(2, 2, 0))
	idles(t, x)
	reportIs(t, x, one, nil, 2, 3)
}

// Each call's answer is a list of one question or of none.
func TestNeverMoreThanOne(t *testing.T) {
	x := begun(t)
	for part, row := range eastRows() {
		for k := range 3 {
			list, _ := x.Take(one.give(row[0], part, k, at(part, k)))
			is(t, fmt.Sprint("questions behind pair ", k), len(list), 1)
		}
		list, _ := x.Take(one.end(row[0], part, 3))
		is(t, "questions behind the end", len(list), min(1, 3-part))
	}
}
