package frame

import (
	"iter"

	"granary/api"
)

// Split finds the frames of a stream, with whatever lies between.
func Split(stream string) []api.Piece {
	var pieces []api.Piece
	for at, m := range Scan(stream) {
		pieces = append(pieces, api.Piece{At: at, Size: frameSize(stream[at:]), M: m})
	}
	return pieces
}

// Scan is likewise, one after the other: the place and the message.
func Scan(stream string) iter.Seq2[int, api.Msg] {
	return func(yield func(int, api.Msg) bool) {
		for at := 0; at < len(stream); {
			m, size := first(stream[at:])
			if size == 0 {
				at++
				continue
			}
			if !yield(at, m) {
				return
			}
			at += size
		}
	}
}

// first is the message of the frame with which a text begins, and that frame's size; 0, if it begins with none.
func first(text string) (api.Msg, int) {
	if len(text) < bareBytes || frameSize(text) > len(text) {
		return api.Msg{}, 0
	}
	size := frameSize(text)
	m, errno := Decode(text[:size])
	if errno != api.OK {
		return api.Msg{}, 0
	}
	return m, size
}

// frameSize is how many bytes a frame has, as its beginning says.
func frameSize(text string) int {
	return bareBytes + bodySize(text)
}

// mayBegin tells whether a text, of one byte at least, could become a frame by more bytes behind it.
func mayBegin(text string) bool {
	there := min(len(text), len(magic))
	if text[:there] != magic[:there] {
		return false
	}
	if len(text) > kindAt && !isKind(int(text[kindAt])) {
		return false
	}
	return len(text) < bodyAt || bodySize(text) <= mostBody && len(text) < frameSize(text)
}
