package frame

import (
	"strings"
	"testing"

	"granary/api"
)

// The chapter's examples, by their numbers.

func TestExample1(t *testing.T) {
	encodes(t, api.Msg{Kind: api.MsgPing, From: 64, To: 3, Id: 1}, raw(aDigits), api.OK)
	is(t, "bytes of A", len(frameA), 24)
}

func TestExample2(t *testing.T) {
	encodes(t, api.Msg{Kind: api.MsgFetch, From: 64, To: 0, Id: 258, Epoch: 7, Version: 12},
		raw("475201 03 0040 0000 0000000000000102 00000010 0000000000000007000000000000000c 7a6b2913"), api.OK)
}

func TestExample3(t *testing.T) {
	encodes(t, api.Msg{Kind: api.MsgGet, From: 65, To: 2, Id: 9, Key: "oat"}, raw(bDigits), api.OK)
	is(t, "bytes of B", len(frameB), 29)
}

func TestExample4(t *testing.T) {
	encodes(t, api.Msg{Kind: api.MsgGot, From: 2, To: 65, Id: 9, Version: 12, Key: "oat", Value: "grain"},
		raw("475201 0c 0002 0041 0000000000000009 00000018 000000000000000c000000036f617400000005677261696e 07fbe9a2"), api.OK)
}

func TestExample5(t *testing.T) {
	for _, kind := range []int{0, 17} {
		encodes(t, api.Msg{Kind: kind}, "", api.ErrFrameKind)
		encodes(t, api.Msg{Kind: kind, From: -1, Id: -1, Code: -1, Key: longKey + "k"}, "", api.ErrFrameKind)
	}
	encodes(t, api.Msg{Kind: api.MsgPing, Seq: 1}, "", api.ErrFrameField)
	encodes(t, api.Msg{Kind: api.MsgPing, From: 65536}, "", api.ErrFrameField)
	encodes(t, api.Msg{Kind: api.MsgPing, From: -1}, "", api.ErrFrameField)
	encodes(t, api.Msg{Kind: api.MsgGet, Key: longKey + "k"}, "", api.ErrFrameField)
	encodes(t, api.Msg{Kind: api.MsgGot, Version: 9007199254740993}, "", api.ErrFrameField)
	encodes(t, api.Msg{Kind: api.MsgGet}, boxed(11, 0, 0, 0, "\x00\x00"), api.OK)
	encodes(t, api.Msg{Kind: api.MsgGot}, boxed(12, 0, 0, 0, strings.Repeat("\x00", 8+2+2+4)), api.OK)
}

func TestExample6(t *testing.T) {
	decodes(t, frameA, ping, api.OK)
	refuses(t, frameA[:23], api.ErrFrameShort)
	refuses(t, put1(frameA, 0, 72), api.ErrFrameMagic)
	refuses(t, put1(frameA, 2, 2), api.ErrFrameMagic)
	refuses(t, put1(frameA, 3, 0), api.ErrFrameKind)
	refuses(t, put1(frameA, 3, 17), api.ErrFrameKind)
	refuses(t, put1(frameA, 19, 1), api.ErrFrameLength)
	refuses(t, frameA+"x", api.ErrFrameLength)
	refuses(t, put1(frameA, 3, 2), api.ErrFrameSum)
	for at := 4; at <= 15; at++ {
		for b := range 256 {
			if byte(b) != frameA[at] {
				refuses(t, put1(frameA, at, byte(b)), api.ErrFrameSum)
			}
		}
	}
}

func TestExample7(t *testing.T) {
	refuses(t, boxed(api.MsgFetch, 64, 0, 258, strings.Repeat("\x00", 15)), api.ErrFrameBody)
	refuses(t, boxed(api.MsgGet, 65, 2, 9, "\x00\x04oat"), api.ErrFrameBody)
	refuses(t, boxed(api.MsgPing, 64, 3, 9007199254740993, ""), api.ErrFrameBody)
}

func TestExample8(t *testing.T) {
	splits(t, "GGR"+frameA+"x"+frameB+"G", api.Piece{At: 3, Size: 24, M: ping}, api.Piece{At: 28, Size: 29, M: get})
	splits(t, frameA[:20]+frameA, api.Piece{At: 20, Size: 24, M: ping})
	splits(t, "")
}

func TestExample9(t *testing.T) {
	r := NewReader()
	feeds(t, r, frameA[:10], 0)
	feeds(t, r, frameA[10:], 0, ping)
	feeds(t, r, "ab", 2)
	feeds(t, r, frameB[:21], 2)
	closes(t, r, 23)
	feeds(t, r, frameB, 23, get)
}

func TestExample10(t *testing.T) {
	r := NewReader()
	feeds(t, r, put1(frameB[:20], 19, 48), 0)
	feeds(t, r, frameB, 0)
	closes(t, r, 20, get)
}

// TestReadme is the example that README.md shows.
func TestReadme(t *testing.T) {
	text, e := Encode(api.Msg{Kind: api.MsgGet, From: api.AddrClient, To: 2, Id: 9, Key: "oat"})
	is(t, "Encode", e, api.OK)
	is(t, "bytes", len(text), 29)
	decodes(t, text, get, api.OK)
	refuses(t, text[:28], api.ErrFrameLength)
	splits(t, "litter"+text+"litter", api.Piece{At: 6, Size: 29, M: get})

	r := NewReader()
	feeds(t, r, "x"+text[:20], 1)
	feeds(t, r, text[20:]+text[:5], 1, get)
	closes(t, r, 6)
}
