package paper

import (
	"granary/api"
	"granary/digest"
	"granary/plain"
)

// printSum writes a CRC-32 as eight digits.
func printSum(sum int) string {
	return digest.Hex(string([]byte{byte(sum >> 24), byte(sum >> 16), byte(sum >> 8), byte(sum)}))
}

// readSum reads what printSum writes.
func readSum(word string) (int, bool) {
	data, ok := readHex(word, sumBytes)
	sum := 0
	for i := range len(data) {
		sum = sum<<8 + int(data[i])
	}
	return sum, ok
}

// readHex is the bytes that a word writes as digits, if they are just so many.
func readHex(word string, size int) (string, bool) {
	if len(word) != 2*size {
		return "", false
	}
	data, errno := digest.Unhex(word)
	return data, errno == api.OK
}

// isName tells whether a disk could call an entry so, its length aside.
func isName(text string) bool {
	return plain.IsOf(text, nameLetters) && text != "." && text != ".."
}
