package digest

import "granary/api"

const digits = "0123456789abcdef"

// Hex writes bytes as digits 0 to 9, a to f.
func Hex(data string) string {
	out := make([]byte, 0, 2*len(data))
	for i := range len(data) {
		out = append(out, digits[data[i]/16], digits[data[i]%16])
	}
	return string(out)
}

// Unhex reads what Hex writes.
func Unhex(text string) (string, api.Errno) {
	if len(text)%2 != 0 {
		return "", api.ErrHex
	}
	out := make([]byte, len(text)/2)
	for i := range out {
		high, isHigh := half(text[2*i])
		low, isLow := half(text[2*i+1])
		if !isHigh || !isLow {
			return "", api.ErrHex
		}
		out[i] = 16*high + low
	}
	return string(out), api.OK
}

// half is the half byte that a digit stands for.
func half(digit byte) (byte, bool) {
	switch {
	case digit >= '0' && digit <= '9':
		return digit - '0', true
	case digit >= 'a' && digit <= 'f':
		return digit - 'a' + 10, true
	}
	return 0, false
}
