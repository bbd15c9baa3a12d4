// Package plain has what more than one layer goes by: how numbers, lists of them and names stand in texts and bytes, what a version may be called and its papers say, where things lie in a directory, how many partitions there are, which owners are asked first.
package plain

import (
	"strconv"
	"strings"

	"granary/api"
)

const (
	// Letters are those of all names.
	Letters = "abcdefghijklmnopqrstuvwxyz"
	// StoreLetters are those of a store's name.
	StoreLetters = Letters + "0123456789-"
)

// Number reads decimal digits, no more than so many. Up to 18 of them are far from an int's end.
func Number(text string, digits int) (int, bool) {
	if text == "" || len(text) > digits || text[0] == '0' && text != "0" {
		return 0, false
	}
	n := 0
	for i := range len(text) {
		if text[i] < '0' || text[i] > '9' {
			return 0, false
		}
		n = 10*n + int(text[i]-'0')
	}
	return n, true
}

// ListOf writes a list of numbers as one word.
func ListOf(list []int) string {
	if len(list) == 0 {
		return "-"
	}
	var text strings.Builder
	for i, n := range list {
		if i > 0 {
			text.WriteByte(',')
		}
		text.WriteString(strconv.Itoa(n))
	}
	return text.String()
}

// IsStore tells whether a store may be called so.
func IsStore(text string) bool {
	return text != "" && len(text) <= api.MaxName && IsOf(text[:1], Letters) && IsOf(text, StoreLetters)
}

// IsOf tells whether all bytes of a text are among these.
func IsOf(text, these string) bool {
	for i := range len(text) {
		if strings.IndexByte(these, text[i]) < 0 {
			return false
		}
	}
	return true
}
