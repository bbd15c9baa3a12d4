package paper

import "granary/digest"

// What stands ahead of a paper's own sum: it has a line of its own, or is a note's last word.
const (
	sumLine = "sum "
	sumWord = ""
)

func sumTable(word string, sum *int) []field {
	return []field{
		{word, aSum, 0, greatestSum, func() value { return value{number: *sum} }, func(v value) { *sum = v.number }, "\n"},
	}
}

// sealed is a text with its sum behind it.
func sealed(text, word string) string {
	sum := digest.CRC(text)
	return text + written(sumTable(word, &sum))
}

// unseal reads the sum of what the reader has gone past: is there one, and does it fit?
func (r *reader) unseal(word string) (there, fits bool) {
	body := r.text[:r.at]
	sum := 0
	if !r.read(sumTable(word, &sum)) {
		return false, false
	}
	return true, sum == digest.CRC(body)
}
