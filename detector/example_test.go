package detector

import (
	"testing"

	"granary/api"
)

// The chapter's ten examples, and that of README.md. The first nine stand each on the one ahead of it.

func TestExamples1To9(t *testing.T) {
	d := made(t, 3, 2, 5)
	silentIs(t, d, 0, false, api.OK) // 1
	silentIs(t, d, 3, false, api.ErrNode)
	silentIs(t, d, -1, false, api.ErrNode)
	orderIs(t, d, []int{2, 0, 1}, []int{2, 0, 1}) // 2
	badIs(t, d, 0, api.OK)                        // 3
	silentIs(t, d, 0, false, api.OK)
	badIs(t, d, 0, api.OK)
	silentIs(t, d, 0, true, api.OK)
	orderIs(t, d, []int{0, 1, 2}, []int{1, 2, 0}) // 4
	orderIs(t, d, []int{0}, []int{0})
	orderIs(t, d, []int{0, 0, 1}, []int{1, 0, 0})
	tickIs(t, d, api.OK) // 5
	badIs(t, d, 1, api.OK)
	badIs(t, d, 1, api.OK)
	orderIs(t, d, []int{1, 0, 2}, []int{2, 0, 1})
	wait(t, d, 4) // 6
	silentIs(t, d, 0, false, api.OK)
	silentIs(t, d, 1, true, api.OK)
	orderIs(t, d, []int{1, 0, 2}, []int{0, 2, 1})
	badIs(t, d, 0, api.OK) // 7
	silentIs(t, d, 0, true, api.OK)
	orderIs(t, d, []int{1, 0, 2}, []int{2, 1, 0})
	goodIs(t, d, 1, api.OK) // 8
	silentIs(t, d, 1, false, api.OK)
	badIs(t, d, 1, api.OK)
	silentIs(t, d, 1, false, api.OK)
	notOrdered(t, d, []int{1, 3}, api.ErrNode) // 9
	orderIs(t, d, nil, nil)
	endsIn(t, d, 0, 5)
}

func TestExample10(t *testing.T) {
	for _, c := range [][3]int{{0, 1, 1}, {17, 1, 1}, {1, 0, 1}, {1, 65, 1}, {1, 1, 0}, {1, 1, 1025}} {
		if d, e := New(c[0], c[1], c[2]); d != nil || e != api.ErrArg {
			t.Errorf("New(%v) = %v, %d", c, d != nil, e)
		}
	}
}

func TestReadme(t *testing.T) {
	d := made(t, 3, 2, 5)
	badIs(t, d, 0, api.OK)
	badIs(t, d, 0, api.OK)
	silentIs(t, d, 0, true, api.OK)
	orderIs(t, d, []int{0, 2, 1}, []int{2, 1, 0})
	wait(t, d, 5)
	silentIs(t, d, 0, false, api.OK)
	badIs(t, d, 0, api.OK)
	silentIs(t, d, 0, true, api.OK)
	goodIs(t, d, 0, api.OK)
	orderIs(t, d, []int{0, 2, 1}, []int{0, 2, 1})
	notOrdered(t, d, []int{0, 3}, api.ErrNode)
}
