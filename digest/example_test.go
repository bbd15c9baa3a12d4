package digest

import (
	"testing"

	"granary/api"
)

// The chapter's examples, by their numbers.

func TestExample1(t *testing.T) {
	is(t, "MD5 of no part", Hex(MD5()), ofEmpty)
	is(t, "MD5 of the empty text", Hex(MD5("")), ofEmpty)
}

func TestExample2(t *testing.T) {
	is(t, "MD5 of a", Hex(MD5("a")), "0cc175b9c0f1b6a831c399e269772661")
}

func TestExample3(t *testing.T) {
	is(t, "MD5 of abc", Hex(MD5("abc")), "900150983cd24fb0d6963f7d28e17f72")
	is(t, "MD5 of its parts", Hex(MD5("a", "", "bc")), "900150983cd24fb0d6963f7d28e17f72")
}

func TestExample4(t *testing.T) {
	is(t, "MD5", Hex(MD5("message digest")), "f96b697d7cb7938d525a2f31aaf161d0")
}

func TestExample5(t *testing.T) {
	is(t, "CRC of no part", CRC(), 0)
	is(t, "CRC of the empty text", CRC(""), 0)
	is(t, "CRC", CRC("123456789"), 0xcbf43926)
	is(t, "CRC of two parts", CRC("1234", "56789"), 0xcbf43926)
}

func TestExample6(t *testing.T) {
	joins(t, CRC("1234"), CRC("56789"), 5, 0xcbf43926, api.OK)
	joins(t, 7, 9, 0, 14, api.OK)
	joins(t, 0, 5, 9007199254740992, 5, api.OK)
	joins(t, 1, 0, 9007199254740993, 0, api.ErrSumArg)
	joins(t, -1, 0, 0, 0, api.ErrSumArg)
	joins(t, 0, 4294967296, 0, 0, api.ErrSumArg)
}

func TestExample7(t *testing.T) {
	is(t, "Hex", Hex("\x00\x7f\xff"), "007fff")
	unhexes(t, "007fff", "\x00\x7f\xff", api.OK)
	unhexes(t, "007FFF", "", api.ErrHex)
	unhexes(t, "0", "", api.ErrHex)
	unhexes(t, "0g", "", api.ErrHex)
	unhexes(t, "", "", api.OK)
}

func TestExample8(t *testing.T) {
	joins(t, 1, 0, 1, 0x77073096, api.OK)
}

func TestExample9(t *testing.T) {
	h := NewHasher()
	is(t, "MD5 at once", Hex(h.MD5()), ofEmpty)
	is(t, "CRC at once", h.CRC(), 0)
	is(t, "Write ab", h.Write("ab"), api.OK)
	is(t, "MD5 of ab", Hex(h.MD5()), "187ef4436122d1cc2f40dc2b92f0eba0")
	is(t, "Write c", h.Write("c"), api.OK)
	is(t, "MD5 of abc", Hex(h.MD5()), "900150983cd24fb0d6963f7d28e17f72")
	is(t, "Count", h.Count(), 3)
}

func TestExample10(t *testing.T) {
	is(t, "MD5", Hex(MD5(repeated("1234567890", 8))), "57edf4a22be3c955ac49da2e2107b67a")
}

// What README.md shows.
func TestReadme(t *testing.T) {
	is(t, "Hex of MD5", Hex(MD5("a", "bc")), "900150983cd24fb0d6963f7d28e17f72")
	joins(t, CRC("1234"), CRC("56789"), 5, CRC("123456789"), api.OK)
	h := NewHasher()
	h.Write("ab")
	h.Write("c")
	is(t, "the running MD5", h.MD5(), MD5("abc"))
	is(t, "the running CRC", h.CRC(), CRC("abc"))
	is(t, "the count", h.Count(), 3)
}
