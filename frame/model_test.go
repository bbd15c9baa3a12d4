package frame

import (
	"encoding/binary"
	"fmt"
	"hash/crc32"
	"slices"
	"strings"
	"testing"

	"granary/api"
)

// plainDecode goes by the words of P5.3, one after the other.
func plainDecode(s string) (api.Msg, api.Errno) {
	if len(s) < 24 {
		return api.Msg{}, api.ErrFrameShort
	}
	if s[0] != 71 || s[1] != 82 || s[2] != 1 {
		return api.Msg{}, api.ErrFrameMagic
	}
	if s[3] < 1 || s[3] > 16 {
		return api.Msg{}, api.ErrFrameKind
	}
	length := int(binary.BigEndian.Uint32([]byte(s[16:20])))
	if length > 4383 || len(s) != 24+length {
		return api.Msg{}, api.ErrFrameLength
	}
	b := []byte(s)
	if binary.LittleEndian.Uint32(b[20+length:]) != crc32.ChecksumIEEE(b[:20+length]) {
		return api.Msg{}, api.ErrFrameSum
	}
	m, ok := plainFields(b)
	if !ok || frameOf(m) != s {
		return api.Msg{}, api.ErrFrameBody
	}
	return m, api.OK
}

// plainFields are the fields of a frame, as far as they are in their ranges.
func plainFields(b []byte) (m api.Msg, ok bool) {
	ok = true
	take := func(n int) []byte {
		if n > len(b) {
			ok = false
			return make([]byte, 8)
		}
		part := b[:n]
		b = b[n:]
		return part
	}
	number := func() int {
		n := binary.BigEndian.Uint64(take(8))
		ok = ok && n <= 9007199254740992
		return int(n)
	}
	text := func(n, most int) string {
		if n > most || n > len(b) {
			ok = false
			return ""
		}
		return string(take(n))
	}
	m.Kind = int(take(4)[3])
	m.From = int(binary.BigEndian.Uint16(take(2)))
	m.To = int(binary.BigEndian.Uint16(take(2)))
	m.Id = number()
	take(4)
	for _, f := range strings.Fields(kindFields[m.Kind]) {
		switch f {
		case "Code":
			m.Code = api.Errno(binary.BigEndian.Uint16(take(2)))
		case "Key":
			m.Key = text(int(binary.BigEndian.Uint16(take(2))), 255)
		case "Value":
			m.Value = text(int(binary.BigEndian.Uint32(take(4))), 4096)
		default:
			m = with(m, f, number())
		}
	}
	return m, ok
}

// plainFirst tries every piece that begins where a stream begins.
func plainFirst(stream string) (api.Piece, bool) {
	for size := 24; size <= 24+4383 && size <= len(stream); size++ {
		if m, e := plainDecode(stream[:size]); e == api.OK {
			return api.Piece{Size: size, M: m}, true
		}
	}
	return api.Piece{}, false
}

// plainSplit goes by the words of P5.4.
func plainSplit(stream string) []api.Piece {
	var pieces []api.Piece
	for at := 0; at < len(stream); {
		p, ok := plainFirst(stream[at:])
		if !ok {
			at++
			continue
		}
		p.At = at
		pieces = append(pieces, p)
		at += p.Size
	}
	return pieces
}

// plainReader goes by the words of P5.6 and P5.7.
type plainReader struct {
	held    string
	skipped int
}

func (r *plainReader) feed(s string) []api.Msg {
	var told []api.Msg
	r.held += s
	for r.held != "" {
		if p, ok := plainFirst(r.held); ok {
			told = append(told, p.M)
			r.held = r.held[p.Size:]
			continue
		}
		if plainBegins(r.held) {
			return told
		}
		r.held = r.held[1:]
		r.skipped++
	}
	return told
}

func (r *plainReader) close() []api.Msg {
	var told []api.Msg
	r.skipped += len(r.held)
	for _, p := range plainSplit(r.held) {
		told = append(told, p.M)
		r.skipped -= p.Size
	}
	r.held = ""
	return told
}

func plainBegins(s string) bool {
	r := len(s)
	if r < 1 || s[0] != 71 || r > 1 && s[1] != 82 || r > 2 && s[2] != 1 || r > 3 && (s[3] < 1 || s[3] > 16) {
		return false
	}
	if r < 20 {
		return true
	}
	length := int(binary.BigEndian.Uint32([]byte(s[16:20])))
	return length <= 4383 && r < 24+length
}

// spoil is a frame with something wrong in it, or not.
func (d *dice) spoil(text string) string {
	for range d.roll(3) {
		if text == "" {
			return text
		}
		at := d.roll(len(text))
		switch d.roll(7) {
		case 0:
			text = put1(text, at, byte(d.roll(256)))
		case 1:
			text = text[:at]
		case 2:
			text = text[:at] + text[at+1:]
		case 3:
			text = text[:at] + d.bytes(1+d.roll(3)) + text[at:]
		case 4:
			text += d.bytes(1 + d.roll(3))
		case 5:
			text = put1(text, min(at, 3), byte(d.roll(20)))
		case 6:
			if len(text) > 20 {
				text = put1(text, 20+d.roll(len(text)-20), byte(d.roll(256)))
			}
		}
	}
	if len(text) >= 24 && d.roll(4) > 0 {
		if d.roll(4) > 0 {
			text = saying(text, uint32(len(text)-24))
		}
		text = resummed(text)
	}
	return text
}

// stream is frames, hurt frames, beginnings and litter in some order.
func (d *dice) stream(parts int) string {
	out := ""
	for range parts {
		text := frameOf(d.message())
		switch d.roll(6) {
		case 0, 1:
			out += text
		case 2:
			out += d.spoil(text)
		case 3:
			out += text[:d.roll(len(text))]
		case 4:
			out += d.bytes(d.roll(30))
		case 5:
			out += saying(text, uint32(d.roll(120)))[:20+d.roll(5)]
		}
	}
	return out
}

func TestSplitOfSomeStreams(t *testing.T) {
	d := dice(10)
	found := 0
	for range 250 {
		stream := d.stream(1 + d.roll(12))
		want := plainSplit(stream)
		found += len(want)
		splits(t, stream, want...)
	}
	if found < 500 {
		t.Errorf("%d frames in all", found)
	}
}

func TestReadersOfSomeStreams(t *testing.T) {
	d := dice(11)
	r, plain := NewReader(), &plainReader{}
	for range 150 {
		for _, part := range d.cut(d.stream(1 + d.roll(10))) {
			want := plain.feed(part)
			feeds(t, r, part, plain.skipped, want...)
		}
		if d.roll(2) == 0 {
			want := plain.close()
			closes(t, r, plain.skipped, want...)
		}
	}
}

// Whatever the parts, a Reader tells what Split tells of the whole.
func TestReadersAgainstSplit(t *testing.T) {
	d := dice(12)
	for range 1000 {
		stream := d.stream(1 + d.roll(20))
		var want []api.Msg
		skipped := len(stream)
		for _, p := range Split(stream) {
			want = append(want, p.M)
			skipped -= p.Size
		}
		r := NewReader()
		var told []api.Msg
		for _, part := range d.cut(stream) {
			list, e := r.Feed(part)
			is(t, "Feed", e, api.OK)
			told = append(told, list...)
		}
		told = append(told, r.Close()...)
		if !slices.Equal(told, want) || r.Skipped() != skipped {
			t.Errorf("of %s: %.300s, skipped %d, want %.300s, %d", short(stream), fmt.Sprint(told), r.Skipped(), fmt.Sprint(want), skipped)
		}
	}
}
