package mail

import (
	"testing"

	"granary/api"
)

// P13.6

func TestCutAndHealNowhere(t *testing.T) {
	m := made(t, 1)
	for _, no := range nowhere {
		for _, yes := range somewhere {
			cutIs(t, m, no, yes, api.ErrArg)
			cutIs(t, m, yes, no, api.ErrArg)
			healIs(t, m, no, yes, api.ErrArg)
			healIs(t, m, yes, no, api.ErrArg)
		}
		for _, other := range nowhere {
			cutIs(t, m, no, other, api.ErrArg)
			healIs(t, m, no, other, api.ErrArg)
		}
	}
	for own := range 68 {
		cutIs(t, m, own, own, api.ErrArg)
		healIs(t, m, own, own, api.ErrArg)
	}
	is(t, "links that are kept", len(m.cut), 0)
	holds(t, m, 0)
}

// cutsAre holds that of all links just these are cut, in both directions. A full mail tells it: nothing is sent.
func cutsAre(t *testing.T, m *Mail, cuts ...[2]int) {
	t.Helper()
	for from := range 68 {
		for to := range 68 {
			want := api.ErrCrowd
			for _, c := range cuts {
				if c == [2]int{from, to} || c == [2]int{to, from} {
					want = api.ErrCut
				}
			}
			sendIs(t, m, from, to, "", 0, want)
		}
	}
}

// Each link of the whole is one of its own.
func TestEachLink(t *testing.T) {
	m := filled(t, 1)
	for a := range 68 {
		for b := range a {
			if (a+b)%2 == 0 {
				cutIs(t, m, a, b, api.OK)
			} else {
				cutIs(t, m, b, a, api.OK)
			}
			cutsAre(t, m, [2]int{a, b})
			if a%2 == 0 {
				healIs(t, m, a, b, api.OK)
			} else {
				healIs(t, m, b, a, api.OK)
			}
		}
		if t.Failed() {
			t.Fatalf("links of %d", a)
		}
	}
	cutsAre(t, m)
}

func TestManyLinks(t *testing.T) {
	m := filled(t, 1)
	cuts := [][2]int{{0, 67}, {1, 0}, {64, 65}, {67, 66}, {12, 3}, {1, 23}}
	for _, c := range cuts {
		cutIs(t, m, c[0], c[1], api.OK)
	}
	cutsAre(t, m, cuts...)
	for i, c := range cuts {
		healIs(t, m, c[1], c[0], api.OK)
		cutsAre(t, m, cuts[i+1:]...)
	}
}

func TestEveryLink(t *testing.T) {
	m := made(t, 1)
	for a := range 68 {
		for b := range a {
			cutIs(t, m, a, b, api.OK)
		}
	}
	for from := range 68 {
		for to := range 68 {
			if from != to {
				sendIs(t, m, from, to, "", 0, api.ErrCut)
			}
		}
	}
	for a := range 68 {
		for b := range a {
			healIs(t, m, b, a, api.OK)
		}
	}
	sendIs(t, m, 0, 1, "", 1, api.OK)
	cutsAre(t, m)
}

// Cut from either side, healed from either side, once or more: one healing is enough for any number of cuts, and the other way.
func TestCutTwiceHealTwice(t *testing.T) {
	sides := [][2]int{{0, 67}, {67, 0}}
	for _, c := range sides {
		for _, h := range sides {
			for _, again := range sides {
				m := filled(t, 1)
				healIs(t, m, h[0], h[1], api.OK) // whole already
				cutIs(t, m, c[0], c[1], api.OK)
				cutIs(t, m, again[0], again[1], api.OK)
				cutsAre(t, m, c)
				healIs(t, m, h[0], h[1], api.OK)
				cutsAre(t, m)
				healIs(t, m, again[0], again[1], api.OK)
				cutsAre(t, m)
				cutIs(t, m, c[0], c[1], api.OK)
				cutsAre(t, m, c)
			}
		}
	}
}

// Neither changes what is in flight.
func TestLinksTouchNoLetter(t *testing.T) {
	m := filled(t, 3)
	for range 2 {
		cutIs(t, m, 0, 1, api.OK)
		holds(t, m, 3, lettersOf(1, 2, 3)...)
		notDelivered(t, m, 1, api.ErrCut)
	}
	for range 2 {
		healIs(t, m, 1, 0, api.OK)
		holds(t, m, 3, lettersOf(1, 2, 3)...)
	}
	deliverIs(t, m, 1, lettersOf(2)[0], api.OK)
}
