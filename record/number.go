package record

import (
	"math/bits"

	"granary/api"
)

const mostNumberBytes = 4

// field is a number as it stands in a file: its type says how many bytes it has there.
type field interface{ uint16 | uint32 }

// put writes a field behind out, the highest byte first.
func put[F field](out []byte, n F) []byte {
	for shift := bits.Len64(uint64(^F(0))) - 8; shift >= 0; shift -= 8 {
		out = append(out, byte(n>>shift))
	}
	return out
}

// take is the number that the bytes of s write, the highest first.
func take[F field](s string) F {
	var n F
	for i := range len(s) {
		n = n<<8 | F(s[i])
	}
	return n
}

// Number writes a number in so many bytes, the highest first.
func Number(n, width int) (string, api.Errno) {
	if !isNumberWidth(width) {
		return "", api.ErrWidth
	}
	if n < 0 || n>>(8*width) != 0 {
		return "", api.ErrNumber
	}
	whole := put(nil, uint32(n))
	return string(whole[mostNumberBytes-width:]), api.OK
}

// ReadNumber reads the number of so many bytes at a place of a text.
func ReadNumber(s string, at, width int) (int, api.Errno) {
	if !isNumberWidth(width) {
		return 0, api.ErrWidth
	}
	// not at+width > len(s): at may be the greatest int
	if at < 0 || at > len(s)-width {
		return 0, api.ErrArg
	}
	return int(take[uint32](s[at : at+width])), api.OK
}

func isNumberWidth(width int) bool { return width >= 1 && width <= mostNumberBytes }
