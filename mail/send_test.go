package mail

import (
	"strings"
	"testing"
	"unsafe"

	"granary/api"
)

// P13.2

func TestSendNowhere(t *testing.T) {
	m := made(t, 100)
	for _, no := range nowhere {
		for _, yes := range somewhere {
			sendIs(t, m, no, yes, "x", 0, api.ErrArg)
			sendIs(t, m, yes, no, "x", 0, api.ErrArg)
		}
		for _, other := range nowhere {
			sendIs(t, m, no, other, "x", 0, api.ErrArg)
		}
	}
	holds(t, m, 0)
}

func TestSendEverywhere(t *testing.T) {
	m := made(t, 1024)
	var want []api.Letter
	for _, from := range somewhere {
		for _, to := range somewhere {
			want = append(want, letter(len(want)+1, from, to, "x"))
			sendIs(t, m, from, to, "x", len(want), api.OK)
		}
	}
	holds(t, m, len(want), want...)
}

func TestFrames(t *testing.T) {
	var every strings.Builder
	for b := range 256 {
		every.WriteByte(byte(b))
	}
	frames := []string{"", "\x00", "\xff", "\n", "a\x00b", "\xc3\x28", "é", every.String(), strings.Repeat("granary\xff", 1<<17), strings.Repeat("\x00", 65536)}
	m := made(t, 2*len(frames))
	var want []api.Letter
	for i, f := range frames {
		want = append(want, letter(i+1, 3, 4, f))
		sendIs(t, m, 3, 4, f, i+1, api.OK)
	}
	for i, f := range frames {
		want = append(want, letter(len(frames)+i+1, 3, 4, f))
		copyIs(t, m, i, api.OK)
	}
	holds(t, m, len(want), want...)
	for _, w := range want {
		deliverIs(t, m, 0, w, api.OK)
	}
	holds(t, m, len(want))
}

// A frame that is a piece of a greater text does not keep the whole of it.
func TestFrameIsItsOwn(t *testing.T) {
	m, text := made(t, 1), strings.Repeat("x", 1000)
	sendIs(t, m, 0, 1, text[:10], 1, api.OK)
	if unsafe.StringData(m.Flying()[0].Frame) == unsafe.StringData(text) {
		t.Error("the frame keeps the text that it was cut out of")
	}
}

func TestSendOverACutLink(t *testing.T) {
	m := made(t, 3)
	cutIs(t, m, 4, 9, api.OK)
	for range 3 {
		sendIs(t, m, 4, 9, "lost", 0, api.ErrCut)
		sendIs(t, m, 9, 4, "lost", 0, api.ErrCut)
		holds(t, m, 0)
	}
	sendIs(t, m, 4, 8, "x", 1, api.OK)
	healIs(t, m, 4, 9, api.OK)
	holds(t, m, 1, letter(1, 4, 8, "x")) // what was lost does not come back
	sendIs(t, m, 4, 9, "y", 2, api.OK)
	sendIs(t, m, 9, 4, "z", 3, api.OK)
}

// From an address to itself there is no link, whatever is cut.
func TestSendToOneself(t *testing.T) {
	for _, own := range somewhere {
		m := made(t, 2)
		for other := range 68 {
			if other != own {
				cutIs(t, m, own, other, api.OK)
			}
		}
		cutIs(t, m, own, own, api.ErrArg)
		sendIs(t, m, own, own, "me", 1, api.OK)
		for other := range 68 {
			if other != own {
				sendIs(t, m, own, other, "", 0, api.ErrCut)
				sendIs(t, m, other, own, "", 0, api.ErrCut)
			}
		}
		copyIs(t, m, 0, api.OK)
		deliverIs(t, m, 1, letter(2, own, own, "me"), api.OK)
		deliverIs(t, m, 0, letter(1, own, own, "me"), api.OK)
		healIs(t, m, own, own, api.ErrArg)
		sendIs(t, m, own, own, "", 3, api.OK)
	}
}

// Of several errors the first one is told: no address, a cut link, a full mail.
func TestSendErrorsInOrder(t *testing.T) {
	m := filled(t, 2)
	cutIs(t, m, 5, 6, api.OK)
	for _, no := range nowhere {
		sendIs(t, m, no, 5, "", 0, api.ErrArg)
		sendIs(t, m, 5, no, "", 0, api.ErrArg)
		sendIs(t, m, no, no, "", 0, api.ErrArg)
	}
	sendIs(t, m, 5, 6, "", 0, api.ErrCut)
	sendIs(t, m, 6, 5, "", 0, api.ErrCut)
	sendIs(t, m, 5, 5, "", 0, api.ErrCrowd)
	sendIs(t, m, 5, 7, "", 0, api.ErrCrowd)
	sendIs(t, m, 67, 0, "", 0, api.ErrCrowd)
	holds(t, m, 2, lettersOf(1, 2)...)
}

// A refused letter takes no number; one that is gone does not give its own back.
func TestNumbers(t *testing.T) {
	m := made(t, 2)
	cutIs(t, m, 2, 3, api.OK)
	sendIs(t, m, 0, 1, "a", 1, api.OK)
	sendIs(t, m, 2, 3, "", 0, api.ErrCut)
	sendIs(t, m, 0, 68, "", 0, api.ErrArg)
	sendIs(t, m, 0, 1, "b", 2, api.OK)
	sendIs(t, m, 0, 1, "", 0, api.ErrCrowd)
	copyIs(t, m, 0, api.ErrCrowd)
	dropIs(t, m, 1, api.OK)
	copyIs(t, m, 1, api.ErrNoLetter)
	sendIs(t, m, 0, 1, "c", 3, api.OK)
	deliverIs(t, m, 1, letter(3, 0, 1, "c"), api.OK)
	copyIs(t, m, 0, api.OK)
	holds(t, m, 4, letter(1, 0, 1, "a"), letter(4, 0, 1, "a"))
	dropIs(t, m, 0, api.OK)
	dropIs(t, m, 0, api.OK)
	dropIs(t, m, 0, api.ErrNoLetter)
	notDelivered(t, m, 0, api.ErrNoLetter)
	holds(t, m, 4)
	sendIs(t, m, 7, 7, "d", 5, api.OK)
}
