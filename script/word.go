package script

import (
	"strconv"
	"strings"

	"granary/api"
)

const hexDigits = "0123456789abcdef"

// readNumbers reads a number for each of these fields.
func readNumbers(words []string, into []*int) api.Errno {
	for i, field := range into {
		n, ok := numberOf(words[i])
		if !ok {
			return api.ErrWord
		}
		*field = n
	}
	return api.OK
}

// numberOf reads a number that is written in the one way, if an int holds it.
func numberOf(word string) (int, bool) {
	if !isNumber(word) {
		return 0, false
	}
	n, err := strconv.Atoi(word)
	if err != nil {
		return 0, false
	}
	return n, true
}

func isNumber(word string) bool {
	digits := strings.TrimPrefix(word, "-")
	for i, r := range digits {
		if r < '0' || r > '9' || r == '0' && i == 0 && word != "0" {
			return false
		}
	}
	return digits != ""
}

// bytesOf reads written bytes.
func bytesOf(word string) (string, bool) {
	var out strings.Builder
	passed := 0 // digits to come that were looked at already
	for i, r := range word {
		switch {
		case passed > 0:
			passed--
		case r == '%':
			b, ok := escapedAt(word[i:])
			if !ok {
				return "", false
			}
			out.WriteByte(b)
			passed = 2
		case isPlain(r):
			out.WriteByte(byte(r))
		default:
			return "", false
		}
	}
	return out.String(), true
}

// escapedAt reads the "%" at a text's beginning and the two digits behind it. A byte that is plain has no such form.
func escapedAt(text string) (byte, bool) {
	if len(text) < 3 {
		return 0, false
	}
	high, low := strings.IndexByte(hexDigits, text[1]), strings.IndexByte(hexDigits, text[2])
	if high < 0 || low < 0 {
		return 0, false
	}
	b := byte(high<<4 | low)
	if isPlain(rune(b)) {
		return 0, false
	}
	return b, true
}

// escaped writes a byte as "%" and two digits.
func escaped(b byte) string {
	return string([]byte{'%', hexDigits[b>>4], hexDigits[b&15]})
}

// isPlain tells whether a byte is written as it is.
func isPlain(r rune) bool {
	return r >= 'a' && r <= 'z' || r >= 'A' && r <= 'Z' || r >= '0' && r <= '9' || r == '.' || r == '_' || r == '-'
}

// pairOf reads a key and a value. A second "=" would stand in the value, where none may be.
func pairOf(word string) (api.Pair, bool) {
	ahead, behind, found := strings.Cut(word, "=")
	key, isKey := bytesOf(ahead)
	value, isValue := bytesOf(behind)
	if !found || !isKey || !isValue {
		return api.Pair{}, false
	}
	return api.Pair{Key: key, Value: value}, true
}

// keyOf reads a key that stands alone.
func keyOf(word string) (string, bool) {
	key, found := strings.CutPrefix(word, "=")
	if !found {
		return "", false
	}
	return bytesOf(key)
}
