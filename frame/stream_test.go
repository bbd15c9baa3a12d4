package frame

import (
	"iter"
	"strings"
	"testing"

	"granary/api"
)

// P5.1, of Split

func TestPiecesAreNewMemory(t *testing.T) {
	stream := frameA + frameB + frameA
	one, other := Split(stream), Split(stream)
	want := Split(stream)
	one = one[:cap(one)]
	for i := range one {
		one[i] = api.Piece{At: -1}
	}
	_ = append(one, api.Piece{At: -2})
	for i, p := range other {
		is(t, "a piece", p, want[i])
	}
	splits(t, stream, want...)
}

// P5.4

func TestStreamsWithoutFrames(t *testing.T) {
	for _, stream := range []string{"", "G", "GR", "GR\x01", "GR\x01\x01", frameA[:20], frameA[:23], frameA[1:], strings.Repeat("G", 1000), strings.Repeat("GR\x01\x01", 1000), strings.Repeat("\x00", 1000), strings.Repeat(frameA[:20], 50)} {
		splits(t, stream)
	}
}

func TestFramesOneBehindTheOther(t *testing.T) {
	stream := ""
	var want []api.Piece
	for kind := 1; kind <= 16; kind++ {
		for _, m := range []api.Msg{full(kind), {Kind: kind}, greatest(kind)} {
			text := frameOf(m)
			want = append(want, api.Piece{At: len(stream), Size: len(text), M: m})
			stream += text
		}
	}
	splits(t, stream, want...)
}

func TestLitterBetweenFrames(t *testing.T) {
	for _, litter := range []string{"x", "G", "GG", "GR", "GR\x01", "GR\x01\x01", "GR\x01\x11", "\x00\x00\x00", frameA[:19], frameA[:20], frameB[:28], frameA[1:], frameB[1:], put1(frameA, 20, 0), put1(frameB, 23, 0), saying(frameA, 29), saying(frameA, maxBody), saying(frameA, maxBody+1), saying(frameA, 1<<32-1), longValue} {
		n := len(litter)
		splits(t, litter)
		splits(t, litter+frameB, api.Piece{At: n, Size: 29, M: get})
		splits(t, frameB+litter, api.Piece{Size: 29, M: get})
		splits(t, litter+frameA+litter+frameB+litter, api.Piece{At: n, Size: 24, M: ping}, api.Piece{At: 2*n + 24, Size: 29, M: get})
	}
}

// What stands within a frame is told no more; within what is no frame, it is.
func TestFramesWithinFrames(t *testing.T) {
	outer := api.Msg{Kind: 12, Key: frameA, Value: frameB + frameA}
	text := frameOf(outer)
	splits(t, text+frameA, api.Piece{Size: len(text), M: outer}, api.Piece{At: len(text), Size: 24, M: ping})
	key, value := 20+8+2+2, 20+8+2+2+24+4
	inner := []api.Piece{{At: key, Size: 24, M: ping}, {At: value, Size: 29, M: get}, {At: value + 29, Size: 24, M: ping}}
	splits(t, put1(text, len(text)-1, text[len(text)-1]^1), inner...)
	splits(t, put1(text, 10, 9), inner...)
	splits(t, put1(text, 0, 'g'), inner...)
	splits(t, text[:len(text)-1], inner...)
	splits(t, text[1:], api.Piece{At: key - 1, Size: 24, M: ping}, api.Piece{At: value - 1, Size: 29, M: get}, api.Piece{At: value + 28, Size: 24, M: ping})
}

func TestPiecesOfTheGreatestLength(t *testing.T) {
	m := greatest(16)
	text := frameOf(m)
	splits(t, "x"+text+"x", api.Piece{At: 1, Size: 24 + maxBody, M: m})
	splits(t, text[:len(text)-1]+text, api.Piece{At: len(text) - 1, Size: len(text), M: m})
	splits(t, boxed(1, 0, 0, 0, strings.Repeat("\x00", maxBody+1))+frameA, api.Piece{At: 24 + maxBody + 1, Size: 24, M: ping})
}

// A frame that is one but for its fields.
func TestFramesOfNoMessage(t *testing.T) {
	for _, text := range []string{boxed(1, 0, 0, 1<<53+1, ""), boxed(3, 0, 0, 0, "x"), boxed(11, 0, 0, 0, "\x00\x04oat"), boxed(17, 0, 0, 0, "")} {
		splits(t, text)
		splits(t, text+frameA, api.Piece{At: len(text), Size: 24, M: ping})
	}
}

// P5.5

// places are where Scan tells frames, up to so many.
func places(scan iter.Seq2[int, api.Msg], most int) []int {
	var list []int
	for at := range scan {
		list = append(list, at)
		if len(list) == most {
			break
		}
	}
	return list
}

func sameList(t *testing.T, what string, got, want []int) {
	t.Helper()
	if len(got) != len(want) {
		t.Fatalf("%s: %v, want %v", what, got, want)
	}
	for i := range got {
		is(t, what, got[i], want[i])
	}
}

func TestScanAgainAndAgain(t *testing.T) {
	scan := Scan("G" + frameA + frameB + "xx" + frameA)
	want := []int{1, 25, 56}
	for range 3 {
		sameList(t, "whole", places(scan, 9), want)
		for n := 1; n <= 3; n++ {
			sameList(t, "broken off", places(scan, n), want[:n])
		}
	}
	sameList(t, "of nothing", places(Scan(""), 9), nil)
}

func TestRangeWithinARange(t *testing.T) {
	scan := Scan(frameA + "x" + frameB + frameA)
	want := []int{0, 25, 54}
	var outer []int
	for at, m := range scan {
		outer = append(outer, at)
		sameList(t, "inner", places(scan, 9), want)
		sameList(t, "inner, broken off", places(scan, 1), want[:1])
		is(t, "the message", m, map[bool]api.Msg{true: get, false: ping}[at == 25])
	}
	sameList(t, "outer", outer, want)
}

func TestTwoRangesInTurns(t *testing.T) {
	scan := Scan(frameA + frameB + frameA)
	one, stopOne := iter.Pull2(scan)
	other, stopOther := iter.Pull2(scan)
	defer stopOther()
	for i, want := range []int{0, 24, 53} {
		at, _, ok := one()
		is(t, "the one", at, want)
		is(t, "the one", ok, true)
		if i == 1 {
			stopOne()
			break
		}
	}
	for _, want := range []int{0, 24, 53} {
		at, _, ok := other()
		is(t, "the other", at, want)
		is(t, "the other", ok, true)
	}
	_, _, ok := other()
	is(t, "behind the end", ok, false)
}

// Nothing is called behind a break: a yield function that is called again would say so.
func TestBrokenOffForGood(t *testing.T) {
	calls := 0
	Scan(frameA + frameA + frameA)(func(int, api.Msg) bool {
		calls++
		return calls < 2
	})
	is(t, "calls", calls, 2)
}

// Scan works as it goes: what is broken off early costs no more in a long stream than in a short one.
func TestScanWorksAsItGoes(t *testing.T) {
	costs := func(stream string) float64 {
		return testing.AllocsPerRun(10, func() {
			for range Scan(stream) {
				break
			}
		})
	}
	one := costs(frameB)
	is(t, "memory taken", costs(strings.Repeat(frameB, 5000)), one)
}
