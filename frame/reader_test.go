package frame

import (
	"fmt"
	"strings"
	"testing"

	"granary/api"
)

// P5.1, of Readers

func TestNoReader(t *testing.T) {
	var none *Reader
	for _, s := range []string{"", "x", frameA} {
		list, e := none.Feed(s)
		is(t, "messages", len(list), 0)
		is(t, "Feed", e, api.ErrNil)
	}
	is(t, "Close", len(none.Close()), 0)
	is(t, "Skipped", none.Skipped(), 0)
}

func TestReadersAreApart(t *testing.T) {
	d := dice(20)
	readers, plain := make([]*Reader, 3), make([]plainReader, 3)
	for i := range readers {
		readers[i] = NewReader()
	}
	for range 600 {
		i := d.roll(3)
		part := d.stream(1)
		if d.roll(3) == 0 {
			part = part[:len(part)/2]
		}
		want := plain[i].feed(part)
		feeds(t, readers[i], part, plain[i].skipped, want...)
		for j, r := range readers {
			is(t, "Skipped", r.Skipped(), plain[j].skipped)
		}
	}
}

func TestMessagesAreNewMemory(t *testing.T) {
	r := NewReader()
	first, _ := r.Feed(frameA + frameB + frameA + frameB[:21])
	overwrite(first)
	feeds(t, r, frameB[21:]+frameA, 0, get, ping)
	second, _ := r.Feed(frameB + frameB + saying(frameB, 100) + frameA + frameB)
	overwrite(second)
	is(t, "messages", len(second), 2)
	third := r.Close()
	overwrite(third)
	is(t, "messages", len(third), 2)
	feeds(t, r, frameA, 29, ping)
}

// overwrite writes into a list and into the spare room behind it.
func overwrite(list []api.Msg) {
	all := list[:cap(list)]
	for i := range all {
		all[i] = api.Msg{Kind: -1, Key: "overwritten"}
	}
}

// P5.6

func TestWhatIsHeldBack(t *testing.T) {
	scanned := frameOf(greatest(16))
	for _, s := range []string{"G", "GR", "GR\x01", "GR\x01\x01", "GR\x01\x10", "GR\x01\x05 any bytes", frameA[:19], frameA[:20], frameA[:23], frameB[:28], saying(frameA, 1)[:20], saying(frameA, 1), saying(frameA, maxBody)[:20], saying(frameA, maxBody), scanned[:len(scanned)-1]} {
		r := NewReader()
		feeds(t, r, s, 0)
		feeds(t, r, "", 0)
		closes(t, r, len(s))
		r = NewReader()
		feeds(t, r, "xyz"+s, 3)
		feeds(t, r, "", 3)
		closes(t, r, 3+len(s))
	}
}

func TestWhatIsNotHeldBack(t *testing.T) {
	for _, s := range []string{"", "x", "R", "\x01", "g", "GS", "Gr", "GR\x00", "GR\x02", "GR\x01\x00", "GR\x01\x11", "GR\x01\xff", "GR\x02\x01", "GS\x01\x01", "xyz", saying(frameA, maxBody+1)[:20], saying(frameA, maxBody+1), saying(frameA, 1<<16)[:20], saying(frameA, 1<<31)[:20], saying(frameA, 1<<32-1)[:20], put1(frameA, 23, 0), put1(frameB, 21, 4)} {
		r := NewReader()
		feeds(t, r, s, len(s))
		closes(t, r, len(s))
		feeds(t, r, frameA, len(s), ping)
	}
}

// The number of bytes at which it is told that a beginning is none.
func TestWhenABeginningIsGivenUp(t *testing.T) {
	for _, c := range []struct {
		text string
		at   int
	}{
		{put1(frameA, 0, 'x'), 1}, {put1(frameA, 1, 'x'), 2}, {put1(frameA, 2, 'x'), 3}, {put1(frameA, 3, 'x'), 4}, {put1(frameA, 3, 0), 4},
		{saying(frameA, maxBody+1), 20}, {saying(frameA, 1<<32-1), 20}, {put1(frameA, 23, 1), 24}, {put1(frameB, 28, 1), 29}, {put1(frameB, 5, 1), 29},
	} {
		r := NewReader()
		for i := range c.at - 1 {
			feeds(t, r, c.text[i:i+1], 0)
		}
		feeds(t, r, c.text[c.at-1:c.at], c.at)
	}
}

func TestBeginningAheadOfAFrame(t *testing.T) {
	for n := 1; n < len(frameB); n++ {
		stream := frameB[:n] + frameB
		r := NewReader()
		feeds(t, r, frameB[:n], 0)
		got, e := r.Feed(frameB)
		is(t, "Feed", e, api.OK)
		got = append(got, r.Close()...)
		is(t, fmt.Sprintf("%d bytes ahead", n), fmt.Sprint(got), fmt.Sprint([]api.Msg{get}))
		is(t, "Skipped", r.Skipped(), n)
		splits(t, stream, api.Piece{At: n, Size: 29, M: get})
	}
}

// A frame that is found only when the beginning ahead of it is given up: and all that were held behind it are told at once.
func TestFramesThatWere(t *testing.T) {
	r := NewReader()
	feeds(t, r, saying(frameA, 110)[:20], 0)
	feeds(t, r, frameA, 0)
	feeds(t, r, frameB+"x", 0)
	feeds(t, r, frameA+frameB[:9], 0)
	feeds(t, r, frameB[9:], 0)
	feeds(t, r, frameA[:7], 21, ping, get, ping, get)
	feeds(t, r, frameA[7:], 21, ping)
	closes(t, r, 21)
}

// told are the messages of a stream that is fed in parts of one size, and a Close.
func told(t *testing.T, r *Reader, stream string, size int) []api.Msg {
	t.Helper()
	var list []api.Msg
	for stream != "" {
		n := min(size, len(stream))
		part, e := r.Feed(stream[:n])
		is(t, "Feed", e, api.OK)
		list = append(list, part...)
		stream = stream[n:]
	}
	return append(list, r.Close()...)
}

func mixedStream() string {
	return "GGR" + frameA + "x" + frameB + frameB[:20] + frameA + saying(frameB, 48)[:20] + frameB + frameA[1:] + put1(frameB, 22, 'a') + frameOf(full(16)) + frameOf(full(6)) + "GR\x01\x02" + frameA + frameA[:23]
}

// P5.7

func TestPartsOfEverySize(t *testing.T) {
	stream := mixedStream()
	var want []api.Msg
	skipped := len(stream)
	for _, p := range plainSplit(stream) {
		want = append(want, p.M)
		skipped -= p.Size
	}
	is(t, "frames", len(want), 7)
	r := NewReader()
	for size := 1; size <= len(stream); size++ {
		is(t, fmt.Sprintf("parts of %d bytes", size), fmt.Sprint(told(t, r, stream, size)), fmt.Sprint(want))
		is(t, "Skipped", r.Skipped(), size*skipped)
	}
}

func TestTwoCutsAnywhere(t *testing.T) {
	stream := "G" + frameB[:20] + frameA + "x" + frameB + frameA[:9]
	want := fmt.Sprint([]api.Msg{ping, get})
	for i := range len(stream) + 1 {
		for j := i; j <= len(stream); j++ {
			r := NewReader()
			var list []api.Msg
			for _, part := range []string{stream[:i], stream[i:j], stream[j:]} {
				more, _ := r.Feed(part)
				list = append(list, more...)
			}
			list = append(list, r.Close()...)
			if fmt.Sprint(list) != want || r.Skipped() != len(stream)-24-29 {
				t.Fatalf("cut at %d and %d: %v, skipped %d", i, j, list, r.Skipped())
			}
		}
	}
}

// Byte by byte, each message is told with its last byte, and each byte is skipped as soon as it may be.
func TestByteByByte(t *testing.T) {
	stream := mixedStream()
	r, plain := NewReader(), &plainReader{}
	for i := range len(stream) {
		want := plain.feed(stream[i : i+1])
		feeds(t, r, stream[i:i+1], plain.skipped, want...)
	}
	want := plain.close()
	closes(t, r, plain.skipped, want...)
}

func TestCloseAgain(t *testing.T) {
	r := NewReader()
	closes(t, r, 0)
	feeds(t, r, frameB[:21], 0)
	closes(t, r, 21)
	closes(t, r, 21)
	// What was held is gone: the rest of the frame is litter now.
	feeds(t, r, frameB[21:], 29)
	feeds(t, r, frameB, 29, get)
	closes(t, r, 29)
}

func TestCloseTellsWhatSplitFinds(t *testing.T) {
	r := NewReader()
	held := saying(frameA, maxBody)[:20] + frameA + "xy" + frameB + frameA + frameB[:28]
	feeds(t, r, held, 0)
	closes(t, r, 20+2+28, ping, get, ping)
	feeds(t, r, "z"+frameA, 51, ping)
}

// A Reader keeps no more than what may still become a frame, however much came.
func TestNoMoreIsKept(t *testing.T) {
	r := NewReader()
	for range 300 {
		if _, e := r.Feed(strings.Repeat("GR\x01", 100) + strings.Repeat(frameB, 50) + frameOf(greatest(16))[:4000]); e != api.OK {
			t.Fatalf("Feed: %d", e)
		}
		if n := len(r.held); n >= 24+maxBody {
			t.Fatalf("%d bytes are held", n)
		}
	}
}
