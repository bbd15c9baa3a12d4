package digest

import (
	"math/bits"
	"strings"
)

const (
	blockSize  = 64 // bytes that are mixed in at once
	lengthSize = 8  // bytes of the text's length, at the end of the last block
)

// sines are the whole parts of 2^32 times the absolute sine of 1 to 64.
var sines = [64]uint32{
	0xd76aa478, 0xe8c7b756, 0x242070db, 0xc1bdceee, 0xf57c0faf, 0x4787c62a, 0xa8304613, 0xfd469501,
	0x698098d8, 0x8b44f7af, 0xffff5bb1, 0x895cd7be, 0x6b901122, 0xfd987193, 0xa679438e, 0x49b40821,
	0xf61e2562, 0xc040b340, 0x265e5a51, 0xe9b6c7aa, 0xd62f105d, 0x02441453, 0xd8a1e681, 0xe7d3fbc8,
	0x21e1cde6, 0xc33707d6, 0xf4d50d87, 0x455a14ed, 0xa9e3e905, 0xfcefa3f8, 0x676f02d9, 0x8d2a4c8a,
	0xfffa3942, 0x8771f681, 0x6d9d6122, 0xfde5380c, 0xa4beea44, 0x4bdecfa9, 0xf6bb4b60, 0xbebfbc70,
	0x289b7ec6, 0xeaa127fa, 0xd4ef3085, 0x04881d05, 0xd9d4d039, 0xe6db99e5, 0x1fa27cf8, 0xc4ac5665,
	0xf4292244, 0x432aff97, 0xab9423a7, 0xfc93a039, 0x655b59c3, 0x8f0ccc92, 0xffeff47d, 0x85845dd1,
	0x6fa87e4f, 0xfe2ce6e0, 0xa3014314, 0x4e0811a1, 0xf7537e82, 0xbd3af235, 0x2ad7d2bb, 0xeb86d391,
}

// turns are the places by which a word is turned, four for each round.
var turns = [4][4]int{{7, 12, 17, 22}, {5, 9, 14, 20}, {4, 11, 16, 23}, {6, 10, 15, 21}}

// words are A, B, C and D.
type words [4]uint32

// running is an MD5 that runs along. Its zero value has seen nothing.
type running struct {
	words words
	count int
	rest  [blockSize]byte // its first count % blockSize bytes are not mixed in yet
}

// MD5 is the MD5 (16 bytes) of the parts, one behind the other.
func MD5(parts ...string) string {
	var r running
	for _, part := range parts {
		r.write(part)
	}
	return r.sum()
}

func (r *running) write(data string) {
	if r.count < blockSize { // no block has been mixed in, so the words are still the first ones
		r.words = words{0x67452301, 0xefcdab89, 0x98badcfe, 0x10325476}
	}
	kept := r.count % blockSize
	r.count += len(data)
	if kept > 0 {
		n := copy(r.rest[kept:], data)
		if kept+n < blockSize {
			return
		}
		r.words = r.words.mixed(string(r.rest[:]))
		data = data[n:]
	}
	for len(data) >= blockSize {
		r.words = r.words.mixed(data[:blockSize])
		data = data[blockSize:]
	}
	copy(r.rest[:], data)
}

// sum ends a copy: more may be written to the sum itself.
func (r running) sum() string {
	length := lowFirst(uint64(r.count)*8, lengthSize)
	zeros := (2*blockSize - lengthSize - 1 - r.count%blockSize) % blockSize
	r.write("\x80" + strings.Repeat("\x00", zeros) + length)
	out := ""
	for _, w := range r.words {
		out += lowFirst(uint64(w), 4)
	}
	return out
}

// lowFirst is a number as so many bytes, the lowest first.
func lowFirst(n uint64, size int) string {
	out := make([]byte, size)
	for i := range out {
		out[i] = byte(n >> (8 * i))
	}
	return string(out)
}

// split is a block as sixteen words.
func split(block string) [16]uint32 {
	var out [16]uint32
	for i := range out {
		b := block[4*i : 4*i+4]
		out[i] = uint32(b[0]) | uint32(b[1])<<8 | uint32(b[2])<<16 | uint32(b[3])<<24
	}
	return out
}

// mixed are the words with one more block taken in.
func (w words) mixed(block string) words {
	m := split(block)
	a, b, c, d := w[0], w[1], w[2], w[3]
	for i := range sines {
		var f uint32
		var g int
		switch i / 16 {
		case 0:
			f, g = b&c|^b&d, i
		case 1:
			f, g = d&b|^d&c, 5*i+1
		case 2:
			f, g = b^c^d, 3*i+5
		default:
			f, g = c^(b|^d), 7*i
		}
		x := b + bits.RotateLeft32(a+f+sines[i]+m[g%16], turns[i/16][i%4])
		a, b, c, d = d, x, b, c
	}
	return words{w[0] + a, w[1] + b, w[2] + c, w[3] + d}
}
