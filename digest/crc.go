package digest

import "granary/api"

const (
	greatest = 1<<32 - 1 // of all CRCs

	// A word is a polynomial modulo that of the steps, its highest bit the number 1; a step multiplies by x.
	feedback = 0xedb88320
	one      = 1 << 31
)

// fourSteps is what four steps make of the words 0 to 15.
var fourSteps = [16]uint32{
	0x00000000, 0x1db71064, 0x3b6e20c8, 0x26d930ac, 0x76dc4190, 0x6b6b51f4, 0x4db26158, 0x5005713c,
	0xedb88320, 0xf00f9344, 0xd6d6a3e8, 0xcb61b38c, 0x9b64c2b0, 0x86d3d2d4, 0xa00ae278, 0xbdbdf21c,
}

// CRC is the CRC-32 of the parts, one behind the other.
func CRC(parts ...string) int {
	var sum uint32
	for _, part := range parts {
		sum = lengthen(sum, part)
	}
	return int(sum)
}

// lengthen is the sum of a text that has this sum, with data behind it.
func lengthen(sum uint32, data string) uint32 {
	word := ^sum
	for i := range len(data) {
		word ^= uint32(data[i])
		word = word>>4 ^ fourSteps[word%16]
		word = word>>4 ^ fourSteps[word%16]
	}
	return ^word
}

// CRCJoin is the CRC-32 of two texts, one behind the other, of their CRCs and the length of the second.
func CRCJoin(first, second, length int) (int, api.Errno) {
	if !isCRC(first) || !isCRC(second) || length < 0 || length > api.MaxNumber {
		return 0, api.ErrSumArg
	}
	word := uint32(first)
	power := uint32(one >> 8) // eight steps; doubled with each turn
	for n := length; n > 0; n /= 2 {
		if n%2 == 1 {
			word = product(word, power)
		}
		power = product(power, power)
	}
	return int(word) ^ second, api.OK
}

func isCRC(n int) bool {
	return n >= 0 && n <= greatest
}

// step is the step of which the chapter speaks.
func step(word uint32) uint32 {
	if word%2 == 0 {
		return word / 2
	}
	return word/2 ^ feedback
}

// product is that of two words as polynomials.
func product(a, b uint32) uint32 {
	var sum uint32
	for ; a != 0; a <<= 1 {
		if a&one != 0 {
			sum ^= b
		}
		b = step(b)
	}
	return sum
}
