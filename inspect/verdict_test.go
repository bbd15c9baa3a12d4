package inspect

import (
	"testing"

	"granary/api"
)

// P22.6

func TestVerdict(t *testing.T) {
	kinds := func(all ...int) []api.Finding {
		var list []api.Finding
		for _, kind := range all {
			list = append(list, api.Finding{Path: "store/version-7", Kind: kind, Code: 93, Version: 7, Count: 99})
		}
		return list
	}
	for _, x := range []struct {
		kinds []int
		want  int
	}{
		{nil, 0}, {[]int{}, 0},
		{[]int{0}, 0}, {[]int{1}, 1}, {[]int{2}, 2}, {[]int{3}, 3}, {[]int{4}, 4}, {[]int{5}, 5}, {[]int{6}, 6},
		{[]int{7}, 7}, {[]int{mostInt}, mostInt},
		{[]int{-1}, 0}, {[]int{leastInt}, 0}, {[]int{-6, -1, -2}, 0},
		{[]int{1, 6, 2}, 6}, {[]int{6, 1, 2}, 6}, {[]int{1, 2, 6}, 6}, {[]int{5, 5, 4}, 5}, {[]int{-1, 1}, 1}, {[]int{1, -6}, 1}, {[]int{0, 3, -9, 2}, 3},
		{[]int{mostInt, leastInt}, mostInt}, {[]int{leastInt, mostInt}, mostInt},
	} {
		list := kinds(x.kinds...)
		if got := Verdict(list); got != x.want {
			t.Errorf("Verdict of %v: %d, want %d", x.kinds, got, x.want)
		}
		same(t, "the list", list, kinds(x.kinds...))
	}
	// Each order of all kinds; and what stands behind a list's end does not count.
	for first := range 7 {
		for second := range 7 {
			is(t, "Verdict", Verdict(kinds(first, second)), max(first, second))
			is(t, "Verdict of the first", Verdict(kinds(first, second, 6)[:1]), first)
		}
	}
	is(t, "Verdict of nil", Verdict(nil), 0)
	many := kinds(make([]int, 100000)...)
	many[99999].Kind = 4
	is(t, "Verdict of many", Verdict(many), 4)
}

// What the looks find, summed up.
func TestVerdictOfLooks(t *testing.T) {
	for what, x := range map[string]struct {
		things []string
		want   int
	}{
		"nothing":     {nil, 0},
		"a gap":       {[]string{"store/"}, 0},
		"a pointer":   {[]string{"store/latest=" + pointer(t, 0, 0, 1, 1)}, 1},
		"a fetch":     {[]string{"store/fetch-1/"}, 2},
		"trash":       {[]string{"store/trash-1/", "store/fetch-1/"}, 3},
		"a stranger":  {[]string{"store/trash-1/", "x"}, 5},
		"no pointer":  {[]string{"store/latest", "x"}, 6},
		"broken last": {[]string{"store/version-1/", "store/fetch-1/"}, 6},
	} {
		list, e := Store(laid(t, x.things...), east(), 1)
		is(t, what, e, api.OK)
		is(t, what, Verdict(list), x.want)
	}
	list, e := Depot(laid(t, "gone-1/", "part-2/"), east())
	is(t, "Depot", e, api.OK)
	is(t, "a number that is used up", Verdict(list), 4)
}
