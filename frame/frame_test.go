package frame

import (
	"fmt"
	"strings"
	"testing"

	"granary/api"
)

// P5.1, of Encode and Decode

func TestAnyMessageAndAnyTextIsAnswered(t *testing.T) {
	for _, n := range []int{leastInt, leastInt + 1, -1 << 53, -65536, -1, 65536, 1 << 32, 1<<53 + 1, 1 << 62, mostInt} {
		for kind := -1; kind <= 18; kind++ {
			m := api.Msg{Kind: kind, From: n, To: n, Id: n, Epoch: n, Seq: n, Version: n, Prev: n, Code: api.Errno(n), Key: "k", Value: "v"}
			if text, e := Encode(m); e == api.OK || text != "" {
				t.Errorf("Encode(%+v) = %s, %d", m, short(text), e)
			}
		}
		encodes(t, api.Msg{Kind: n, Key: longValue}, "", api.ErrFrameKind)
	}
	d := dice(1)
	for n := range 3000 {
		text := d.bytes(n % 90)
		want, errno := plainDecode(text)
		decodes(t, text, want, errno)
	}
	refuses(t, strings.Repeat("\x00", 1<<20), api.ErrFrameMagic)
	refuses(t, strings.Repeat("GR\x01\x01", 1<<18), api.ErrFrameLength)
}

// P5.2 and P5.3

func TestEveryKind(t *testing.T) {
	for kind := 1; kind <= 16; kind++ {
		for _, m := range []api.Msg{{Kind: kind}, full(kind), greatest(kind)} {
			text := frameOf(m)
			encodes(t, m, text, api.OK)
			decodes(t, text, m, api.OK)
		}
	}
	is(t, "the longest frame", len(frameOf(greatest(16))), 24+maxBody)
}

func TestNoKind(t *testing.T) {
	for _, kind := range []int{leastInt, -1, 0, 17, 18, 255, 256, 257, 272, mostInt} {
		encodes(t, api.Msg{Kind: kind}, "", api.ErrFrameKind)
		encodes(t, api.Msg{Kind: kind, From: -1, Seq: 5, Key: longValue}, "", api.ErrFrameKind)
	}
	for b := range 256 {
		text := boxed(b, 0, 0, 0, "")
		if b < 1 || b > 16 {
			refuses(t, text, api.ErrFrameKind)
		} else if kindFields[b] == "" {
			decodes(t, text, api.Msg{Kind: b}, api.OK)
		} else {
			refuses(t, text, api.ErrFrameBody)
		}
	}
}

func TestRangesOfFields(t *testing.T) {
	for kind := 1; kind <= 16; kind++ {
		for _, f := range fieldsOf(kind) {
			top := ranges[f]
			for _, n := range []int{0, 1, top - 1, top} {
				for _, m := range []api.Msg{with(api.Msg{Kind: kind}, f, n), with(full(kind), f, n)} {
					encodes(t, m, frameOf(m), api.OK)
					decodes(t, frameOf(m), m, api.OK)
				}
			}
			wrong := []int{top + 1, top + 2, 2 * (top + 1), 1 << 16, 1<<16 + 1}
			if !isText(f) {
				wrong = []int{-1, -2, -65536, leastInt, top + 1, 2 * (top + 1), 1<<16 | 1<<53, 1<<62 + 1, mostInt}
			}
			for _, n := range wrong {
				encodes(t, with(api.Msg{Kind: kind}, f, n), "", api.ErrFrameField)
				encodes(t, with(full(kind), f, n), "", api.ErrFrameField)
			}
		}
	}
}

func TestFieldsThatAKindHasNot(t *testing.T) {
	for kind := 1; kind <= 16; kind++ {
		for _, f := range strings.Fields(otherFields) {
			if has(kind, f) {
				continue
			}
			numbers := []int{1, ranges[f], ranges[f] + 1}
			if !isText(f) {
				numbers = append(numbers, -1, leastInt, mostInt)
			}
			for _, n := range numbers {
				encodes(t, with(api.Msg{Kind: kind}, f, n), "", api.ErrFrameField)
				encodes(t, with(full(kind), f, n), "", api.ErrFrameField)
			}
		}
	}
}

func TestTextsOfAnyBytes(t *testing.T) {
	all := ""
	for b := range 256 {
		all += string([]byte{byte(b)})
	}
	for _, text := range []string{all[1:], all[:255], "\x00", "\xff\xfe", "GR\x01\x01", "é\n ", frameA, frameB, strings.Repeat("\xff", 255)} {
		for _, m := range []api.Msg{{Kind: 11, Key: text}, {Kind: 12, Key: text, Value: text}, {Kind: 14, Value: text + text}, {Kind: 16, Key: text, Value: all + all}} {
			encodes(t, m, frameOf(m), api.OK)
			decodes(t, frameOf(m), m, api.OK)
		}
	}
}

// P5.3

func TestShortTexts(t *testing.T) {
	for n := range 24 {
		refuses(t, frameA[:n], api.ErrFrameShort)
		refuses(t, frameOf(greatest(16))[:n], api.ErrFrameShort)
		refuses(t, strings.Repeat("x", n), api.ErrFrameShort)
	}
	refuses(t, strings.Repeat("x", 24), api.ErrFrameMagic)
}

// Each of the faults, with all of those behind it.
func TestOrderOfErrors(t *testing.T) {
	wrongBody := func(kind byte, first string) string {
		return summed(first + string([]byte{kind}) + frameA[4:16] + "\x00\x00\x00\x01b")
	}
	spoilt := func(text string) string { return text[:len(text)-1] + "!" }
	refuses(t, wrongBody(1, "GR\x01"), api.ErrFrameBody)
	refuses(t, spoilt(wrongBody(1, "GR\x01")), api.ErrFrameSum)
	refuses(t, saying(spoilt(wrongBody(1, "GR\x01")), 2), api.ErrFrameLength)
	refuses(t, resummed(saying(wrongBody(1, "GR\x01"), 2)), api.ErrFrameLength)
	refuses(t, saying(spoilt(wrongBody(0, "GR\x01")), 2), api.ErrFrameKind)
	refuses(t, saying(spoilt(wrongBody(17, "GR\x01")), 1<<31), api.ErrFrameKind)
	refuses(t, wrongBody(17, "GR\x01"), api.ErrFrameKind)
	refuses(t, saying(spoilt(wrongBody(0, "GR\x02")), 2), api.ErrFrameMagic)
	refuses(t, wrongBody(1, "GR\x00"), api.ErrFrameMagic)
	refuses(t, saying(spoilt(wrongBody(0, "GR\x02")), 2)[:23], api.ErrFrameShort)
	refuses(t, "", api.ErrFrameShort)
}

func TestFirstBytes(t *testing.T) {
	for at := range 3 {
		for b := range 256 {
			if text := resummed(put1(frameA, at, byte(b))); text != frameA {
				refuses(t, text, api.ErrFrameMagic)
			}
		}
	}
}

func TestLengths(t *testing.T) {
	long := frameOf(greatest(16))
	for _, length := range []uint32{0, 1, 23, maxBody - 1, maxBody + 1, maxBody + 24, 1 << 13, 1 << 16, 1<<16 + maxBody, 1 << 24, 1<<24 + maxBody, 1<<31 - 1, 1 << 31, 1<<32 - 24, 1<<32 - 1} {
		refuses(t, resummed(saying(long, length)), api.ErrFrameLength)
		refuses(t, saying(long, length), api.ErrFrameLength)
		if length > 0 {
			refuses(t, resummed(saying(frameA, length)), api.ErrFrameLength)
		}
	}
	for kind := 1; kind <= 16; kind++ {
		refuses(t, boxed(kind, 0, 0, 0, strings.Repeat("\x00", maxBody)), api.ErrFrameBody)
		for _, n := range []int{maxBody + 1, maxBody + 2, 1 << 16, 1 << 20} {
			refuses(t, boxed(kind, 0, 0, 0, strings.Repeat("\x00", n)), api.ErrFrameLength)
		}
	}
}

func TestShorterAndLonger(t *testing.T) {
	for kind := 1; kind <= 16; kind++ {
		text := frameOf(full(kind))
		for n := range len(text) {
			errno := api.ErrFrameLength
			if n < 24 {
				errno = api.ErrFrameShort
			}
			refuses(t, text[:n], errno)
		}
		for _, more := range []string{"\x00", "G", "GR\x01", frameA, text, longValue} {
			refuses(t, text+more, api.ErrFrameLength)
			refuses(t, summed(text+more), api.ErrFrameLength)
		}
	}
}

func TestEveryByteTurned(t *testing.T) {
	for kind := 1; kind <= 16; kind++ {
		text := frameOf(full(kind))
		for at := range len(text) {
			for b := range 256 {
				if byte(b) == text[at] {
					continue
				}
				errno := api.ErrFrameSum
				switch {
				case at < 3:
					errno = api.ErrFrameMagic
				case at == 3 && (b < 1 || b > 16):
					errno = api.ErrFrameKind
				case at >= 16 && at < 20:
					errno = api.ErrFrameLength
				}
				refuses(t, put1(text, at, byte(b)), errno)
			}
		}
	}
}

func TestSumWithItsHighestByteFirst(t *testing.T) {
	for kind := 1; kind <= 16; kind++ {
		text := frameOf(full(kind))
		n := len(text)
		refuses(t, text[:n-4]+string([]byte{text[n-1], text[n-2], text[n-3], text[n-4]}), api.ErrFrameSum)
		refuses(t, text[:n-4]+"\x00\x00\x00\x00", api.ErrFrameSum)
	}
}

// Bodies of another length than the kind's fields have, the length and the sum fitting.
func TestBodiesTooShortAndTooLong(t *testing.T) {
	for kind := 1; kind <= 16; kind++ {
		for _, m := range []api.Msg{{Kind: kind}, full(kind)} {
			body := bytesOf(m)
			for n := range len(body) {
				refuses(t, boxed(kind, 1, 2, 3, body[:n]), api.ErrFrameBody)
			}
			for _, more := range []string{"\x00", "x", "\x00\x00\x00\x00", longKey} {
				refuses(t, boxed(kind, 1, 2, 3, body+more), api.ErrFrameBody)
			}
		}
	}
}

func TestNumbersAboveTheGreatest(t *testing.T) {
	for kind := 1; kind <= 16; kind++ {
		for _, f := range fieldsOf(kind) {
			if ranges[f] != 1<<53 {
				continue
			}
			for _, n := range []int{1<<53 + 1, 1<<53 + 1<<32, 1 << 54, 1 << 56, 1 << 62, mostInt, leastInt, leastInt + 1, -1, -1 << 53} {
				refuses(t, frameOf(with(full(kind), f, n)), api.ErrFrameBody)
				refuses(t, frameOf(with(api.Msg{Kind: kind}, f, n)), api.ErrFrameBody)
			}
		}
	}
}

func TestKeysAndValuesTooLong(t *testing.T) {
	for _, n := range []int{256, 257, 300, 4000} {
		refuses(t, frameOf(with(api.Msg{Kind: 11}, "Key", n)), api.ErrFrameBody)
		refuses(t, frameOf(with(api.Msg{Kind: 12}, "Key", n)), api.ErrFrameBody)
		refuses(t, frameOf(with(api.Msg{Kind: 16}, "Key", n)), api.ErrFrameBody)
	}
	for _, n := range []int{4097, 4098, 4200} {
		for _, kind := range []int{12, 14, 16} {
			refuses(t, frameOf(with(api.Msg{Kind: kind}, "Value", n)), api.ErrFrameBody)
		}
	}
}

// Lengths of a key or a value that are not those of the bytes that are there.
func TestLengthsWithinABody(t *testing.T) {
	for n := range 1 << 16 {
		text := boxed(11, 0, 0, 0, string([]byte{byte(n >> 8), byte(n)})+"oat")
		if n == 3 {
			decodes(t, text, api.Msg{Kind: 11, Key: "oat"}, api.OK)
		} else if _, e := Decode(text); e != api.ErrFrameBody {
			t.Errorf("a key that is said to have %d bytes: %d", n, e)
		}
	}
	ahead := strings.Repeat("\x00", 8+2)
	for _, n := range []uint32{0, 1, 4, 6, 7, 255, 256, 1<<16 + 5, 1<<24 + 5, 1<<31 - 1, 1 << 31, 1<<31 + 5, 1<<32 - 5, 1<<32 - 1} {
		length := string([]byte{byte(n >> 24), byte(n >> 16), byte(n >> 8), byte(n)})
		refuses(t, boxed(12, 0, 0, 0, ahead+"\x00\x03oat"+length+"grain"), api.ErrFrameBody)
		refuses(t, boxed(14, 0, 0, 0, ahead+ahead[:8]+ahead[:8]+length+"grain"), api.ErrFrameBody)
	}
	// A key that takes bytes away from the value's length, and one that leaves it some.
	refuses(t, boxed(12, 0, 0, 0, ahead+"\x00\x04oat\x00\x00\x00\x05grain"), api.ErrFrameBody)
	refuses(t, boxed(12, 0, 0, 0, ahead+"\x00\x02oat\x00\x00\x00\x05grain"), api.ErrFrameBody)
	refuses(t, boxed(12, 0, 0, 0, ahead+"\x00\x0coat\x00\x00\x00\x05grain"), api.ErrFrameBody)
}

// Encode and Decode are each other's way back, and hold what the chapter's words hold.
func TestSomeMessages(t *testing.T) {
	d := dice(2)
	for range 3000 {
		m := d.message()
		text := frameOf(m)
		encodes(t, m, text, api.OK)
		decodes(t, text, m, api.OK)
		want, errno := plainDecode(text)
		is(t, "the plain reading", fmt.Sprint(want, errno), fmt.Sprint(m, api.OK))
	}
}

// Frames with something wrong in them, and the sum made to fit, mostly.
func TestSpoiltFrames(t *testing.T) {
	d := dice(3)
	told := map[api.Errno]int{}
	for range 60000 {
		text := d.spoil(frameOf(d.message()))
		want, errno := plainDecode(text)
		told[errno]++
		decodes(t, text, want, errno)
		if errno == api.OK {
			encodes(t, want, text, api.OK)
		}
	}
	for errno := api.ErrFrameShort; errno <= api.ErrFrameBody; errno++ {
		if told[errno] < 100 {
			t.Errorf("the error %d was told %d times", errno, told[errno])
		}
	}
	if told[api.OK] < 100 {
		t.Errorf("%d frames were good", told[api.OK])
	}
}

// P5.8

// bent is a text in which the bits of a pattern are changed, from that bit on.
func bent(text string, bit int, pattern uint32) string {
	out := []byte(text)
	for i := range 32 {
		if at := bit + i; pattern>>i&1 == 1 && at < 8*len(out) {
			out[at/8] ^= 1 << (at % 8)
		}
	}
	return string(out)
}

func refusesBent(t *testing.T, text string, bit int, pattern uint32) {
	t.Helper()
	hurt := bent(text, bit, pattern)
	if hurt == text {
		return
	}
	if m, e := Decode(hurt); e == api.OK || m != (api.Msg{}) {
		t.Fatalf("%s with the bits %x from %d on is taken: %d", short(text), pattern, bit, e)
	}
}

func TestBitsWithinFewNeighbours(t *testing.T) {
	for kind := 1; kind <= 16; kind++ {
		text := frameOf(full(kind))
		for bit := range 8 * len(text) {
			for pattern := uint32(1); pattern < 1<<8; pattern += 2 {
				refusesBent(t, text, bit, pattern)
			}
			for _, pattern := range []uint32{1<<32 - 1, 1<<31 | 1, 1<<24 | 1, 1<<16 | 1, 0xaaaaaaaa, 0x55555555, 0x80000003, 0xedb88320, 0xedb88321, 0x04c11db7, 0x82608edb} {
				refusesBent(t, text, bit, pattern)
			}
		}
	}
}

func TestBitsWithin32Neighbours(t *testing.T) {
	d := dice(4)
	for range 150000 {
		text := frameOf(full(1 + d.roll(16)))
		refusesBent(t, text, d.roll(8*len(text)), uint32(d.roll(1<<31))<<1|1)
	}
}

// Runs that go over the seam between the body and the sum, or lie next to it.
func TestBitsOverTheSeam(t *testing.T) {
	d := dice(5)
	for kind := 1; kind <= 16; kind++ {
		text := frameOf(full(kind))
		seam := 8 * (len(text) - 4)
		for bit := seam - 31; bit < seam+32; bit++ {
			for range 300 {
				refusesBent(t, text, bit, uint32(d.roll(1<<31))<<1|1)
			}
		}
	}
}
