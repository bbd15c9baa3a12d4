package paper

import (
	"strings"

	"granary/api"
	"granary/digest"
)

// readNumber reads decimal digits. What has no more than the digits that are allowed is far from an int's end.
func readNumber(word string) (int, bool) {
	if word == "" || len(word) > mostDigits || word[0] == '0' && word != "0" {
		return 0, false
	}
	n := 0
	for i := range len(word) {
		if word[i] < '0' || word[i] > '9' {
			return 0, false
		}
		n = 10*n + int(word[i]-'0')
	}
	return n, true
}

// printSum writes a CRC-32 as eight digits.
func printSum(sum int) string {
	return digest.Hex(string([]byte{byte(sum >> 24), byte(sum >> 16), byte(sum >> 8), byte(sum)}))
}

// readSum reads what printSum writes.
func readSum(word string) (int, bool) {
	data, ok := readHex(word, sumBytes)
	sum := 0
	for i := range len(data) {
		sum = sum<<8 + int(data[i])
	}
	return sum, ok
}

// readHex is the bytes that a word writes as digits, if they are just so many.
func readHex(word string, size int) (string, bool) {
	if len(word) != 2*size {
		return "", false
	}
	data, errno := digest.Unhex(word)
	return data, errno == api.OK
}

// isName tells whether a disk could call an entry so, its length aside.
func isName(text string) bool {
	return isOf(text, nameLetters) && text != "." && text != ".."
}

// isStore tells whether a store could be called so, its length aside.
func isStore(text string) bool {
	return text != "" && isOf(text[:1], letters) && isOf(text, storeLetters)
}

// isOf tells whether all bytes of a text are among these.
func isOf(text, these string) bool {
	for i := range len(text) {
		if strings.IndexByte(these, text[i]) < 0 {
			return false
		}
	}
	return true
}
