package record

import (
	"slices"
	"strings"

	"granary/api"
)

// rise holds the piece number i of a list against the piece ahead of it: it is above 0 if the piece's text is above that one's, or if the piece is the first; 0 if the texts are the same.
func rise[T any](list []T, i int, text func(T) string) int {
	if i == 0 {
		return 1
	}
	return strings.Compare(text(list[i]), text(list[i-1]))
}

// find is the piece of a rising list that has such a text.
func find[T any](list []T, wanted string, text func(T) string) (T, bool) {
	i, found := slices.BinarySearchFunc(list, wanted, func(piece T, wanted string) int {
		return strings.Compare(text(piece), wanted)
	})
	if !found {
		var none T
		return none, false
	}
	return list[i], true
}

func pairKey(p api.Pair) string { return p.Key }

func groupHash(g api.Group) string { return g.Hash }

func entryHash(x entry) string { return x.hash }
