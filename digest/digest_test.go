package digest

import (
	"crypto/md5"
	"fmt"
	"hash/crc32"
	"math"
	"runtime"
	"slices"
	"strings"
	"testing"

	"granary/api"
)

// P2.1

func TestMethodsOfNoHasher(t *testing.T) {
	var none *Hasher
	for _, data := range []string{"", "x", repeated("x", 1000)} {
		is(t, "Write", none.Write(data), api.ErrNil)
	}
	is(t, "MD5", none.MD5(), "")
	is(t, "CRC", none.CRC(), 0)
	is(t, "Count", none.Count(), 0)
}

func TestPartsAreLeftAsTheyWere(t *testing.T) {
	room := []string{"a", "", repeated("b", 64), "c", "behind the end"}
	was := slices.Clone(room)
	MD5(room[:4]...)
	CRC(room[:4]...)
	if !slices.Equal(room, was) {
		t.Errorf("the parts are %q, were %q", room, was)
	}
	is(t, "MD5 of no list", MD5([]string(nil)...), MD5(""))
	is(t, "MD5 of an empty list", MD5([]string{}...), MD5(""))
	is(t, "CRC of no list", CRC([]string(nil)...), 0)
	is(t, "CRC of an empty list", CRC([]string{}...), 0)
}

func TestHashersAreApart(t *testing.T) {
	hashers := []*Hasher{NewHasher(), NewHasher(), NewHasher()}
	came := make([]string, len(hashers))
	d := dice(1)
	for range 300 {
		i, data := d.roll(len(hashers)), d.bytes(d.roll(90))
		is(t, "Write", hashers[i].Write(data), api.OK)
		came[i] += data
		for j, h := range hashers {
			sums(t, h, came[j])
		}
	}
}

// P2.2

func TestMD5OfAllLengths(t *testing.T) {
	d := dice(2)
	for _, n := range edges() {
		text := d.bytes(n)
		want := fmt.Sprintf("%x", md5.Sum([]byte(text)))
		is(t, fmt.Sprintf("MD5 of %d bytes", n), Hex(MD5(text)), want)
		is(t, fmt.Sprintf("MD5 of %d bytes in parts", n), Hex(MD5(d.cut(text)...)), want)
		is(t, "bytes of the sum", len(MD5(text)), 16)
	}
	for n := range 400 {
		text := d.bytes(n)
		is(t, fmt.Sprintf("MD5 of %d bytes", n), Hex(MD5(text)), fmt.Sprintf("%x", md5.Sum([]byte(text))))
	}
}

func TestMD5OfPartsCutAnywhere(t *testing.T) {
	d := dice(3)
	text := d.bytes(130)
	want := MD5(text)
	for i := range len(text) + 1 {
		for j := i; j <= len(text); j++ {
			if MD5(text[:i], text[i:j], text[j:]) != want {
				t.Errorf("MD5 of parts cut at %d and %d", i, j)
			}
		}
	}
	if MD5(strings.Split(text, "")...) != want {
		t.Errorf("MD5 of single bytes")
	}
}

func TestMD5OfKnownTexts(t *testing.T) {
	for text, want := range map[string]string{
		"abcdefghijklmnopqrstuvwxyz":                                     "c3fcd3d76192e4007dfb496cca67e13b",
		"ABCDEFGHIJKLMNOPQRSTUVWXYZabcdefghijklmnopqrstuvwxyz0123456789": "d174ab98d277d9f5a5611c2c9f419d9f",
		"\x00":                       "93b885adfe0da089cdf634904fd59f71",
		repeated("a", 55):            "ef1772b6dff9a122358552954ad0df65",
		repeated("a", 56):            "3b0c8ac703f828b04c6c197006d17218",
		repeated("a", 63):            "b06521f39153d618550606be297466d5",
		repeated("a", 64):            "014842d480b571495a4a0363793f7367",
		repeated("a", 65):            "c743a45e0d2e6a95cb859adae0248435",
		repeated("a", 1000000):       "7707d6ae4e027c70eea2a935c2296f21",
		"\xff\xfe\x80\x7f not utf-8": fmt.Sprintf("%x", md5.Sum([]byte("\xff\xfe\x80\x7f not utf-8"))),
	} {
		is(t, fmt.Sprintf("MD5 of %.20q", text), Hex(MD5(text)), want)
	}
}

func TestSines(t *testing.T) {
	for i, got := range sines {
		want := math.Floor(math.Abs(math.Sin(float64(i+1))) * (1 << 32))
		is(t, fmt.Sprintf("T%d", i), float64(got), want)
	}
}

// P2.3

// plainCRC goes by the words of the promise, step by step.
func plainCRC(text string) int {
	word := uint32(1<<32 - 1)
	for i := range len(text) {
		word = steps(word^uint32(text[i]), 8)
	}
	return int(word ^ (1<<32 - 1))
}

func steps(word uint32, n int) uint32 {
	for range n {
		odd := word % 2
		word /= 2
		if odd == 1 {
			word ^= 0xedb88320
		}
	}
	return word
}

func TestCRCOfAllLengths(t *testing.T) {
	d := dice(4)
	for _, n := range edges() {
		text := d.bytes(n)
		want := plainCRC(text)
		is(t, "the two rules", int(crc32.ChecksumIEEE([]byte(text))), want)
		is(t, fmt.Sprintf("CRC of %d bytes", n), CRC(text), want)
		is(t, fmt.Sprintf("CRC of %d bytes in parts", n), CRC(d.cut(text)...), want)
	}
	is(t, "CRC of parts in another order", CRC("b", "a") == CRC("a", "b"), false)
	is(t, "CRC of no bytes in parts", CRC("", "", ""), 0)
}

func TestCRCOfEveryByte(t *testing.T) {
	for b := range 256 {
		text := string([]byte{byte(b)})
		is(t, fmt.Sprintf("CRC of the byte %d", b), CRC(text), plainCRC(text))
	}
	is(t, "the greatest CRC", CRC("\xff\xff\xff\xff"), 1<<32-1)
}

func TestStepsOfSmallWords(t *testing.T) {
	for i, got := range fourSteps {
		is(t, fmt.Sprintf("four steps of %d", i), got, steps(uint32(i), 4))
	}
}

// P2.4

func TestJoinIsRefused(t *testing.T) {
	const top = 1<<32 - 1
	for _, wrong := range []int{-1, least, top + 1, 1 << 40, most} {
		for _, right := range []int{0, 1, top} {
			joins(t, wrong, right, 1, 0, api.ErrSumArg)
			joins(t, right, wrong, 1, 0, api.ErrSumArg)
			joins(t, wrong, wrong, 1, 0, api.ErrSumArg)
			joins(t, wrong, right, -1, 0, api.ErrSumArg)
		}
	}
	for _, wrong := range []int{-1, least, api.MaxNumber + 1, most} {
		joins(t, 1, 2, wrong, 0, api.ErrSumArg)
		joins(t, 0, 0, wrong, 0, api.ErrSumArg)
	}
}

func TestJoinAtItsLimits(t *testing.T) {
	const top = 1<<32 - 1
	joins(t, 0, 0, 0, 0, api.OK)
	joins(t, top, 0, 0, top, api.OK)
	joins(t, 0, top, 0, top, api.OK)
	joins(t, top, top, 0, 0, api.OK)
	joins(t, 0, 0, api.MaxNumber, 0, api.OK)
	joins(t, 0, top, api.MaxNumber, top, api.OK)
}

func TestJoinMakesSteps(t *testing.T) {
	d := dice(5)
	for n := range 300 {
		a, b := d.roll(1<<31)*2+d.roll(2), d.roll(1<<31)*2+d.roll(2)
		joins(t, a, b, n, int(steps(uint32(a), 8*n))^b, api.OK)
	}
	for bit := range 32 {
		joins(t, 1<<bit, 0, 1, int(steps(1<<bit, 8)), api.OK)
		joins(t, 1<<bit, 0, 1000, int(steps(1<<bit, 8000)), api.OK)
	}
}

func TestJoinIsTheSumOfBothTexts(t *testing.T) {
	d := dice(6)
	for _, n := range edges() {
		for _, m := range []int{0, 1, 5, 64, 1000} {
			x, y := d.bytes(m), d.bytes(n)
			joins(t, CRC(x), CRC(y), len(y), CRC(x, y), api.OK)
		}
	}
}

// 2^32 - 1 steps make any word itself again: so a length counts modulo that number, and 2^53 is as good as 2^21.
func TestJoinOfGreatLengths(t *testing.T) {
	const round = 1<<32 - 1
	d := dice(7)
	words := []int{1, 1 << 31, round, 0xedb88320, d.roll(1 << 31)}
	for _, w := range words {
		is(t, "a whole round", after(t, w, round), w)
		is(t, "MaxNumber", after(t, w, api.MaxNumber), int(steps(uint32(w), 8<<21)))
		is(t, "MaxNumber - 1", after(t, w, api.MaxNumber-1), int(steps(uint32(w), 8<<21-8)))
		for bit := range 53 {
			n := 1 << bit
			is(t, fmt.Sprintf("2^%d twice", bit), after(t, after(t, w, n), n), after(t, w, 2*n))
			is(t, fmt.Sprintf("2^%d and 1", bit), after(t, after(t, w, n), 1), after(t, w, n+1))
			is(t, fmt.Sprintf("1 and 2^%d-1", bit), after(t, after(t, w, 1), n-1), after(t, w, n))
		}
	}
}

func TestJoinIsQuick(t *testing.T) {
	for i := range 10000 {
		after(t, i, api.MaxNumber-i)
	}
}

// P2.5

func TestHexOfEveryByte(t *testing.T) {
	all, want := "", ""
	for b := range 256 {
		all += string([]byte{byte(b)})
		want += fmt.Sprintf("%02x", b)
	}
	is(t, "Hex", Hex(all), want)
	unhexes(t, want, all, api.OK)
	is(t, "Hex of nothing", Hex(""), "")
	d := dice(8)
	for n := range 200 {
		text := d.bytes(n)
		is(t, "Hex", Hex(text), fmt.Sprintf("%x", text))
		unhexes(t, Hex(text), text, api.OK)
	}
}

func TestUnhexOfEveryByte(t *testing.T) {
	for b := range 256 {
		digit := string([]byte{byte(b)})
		at := strings.Index("0123456789abcdef", digit)
		if at < 0 {
			unhexes(t, digit+"0", "", api.ErrHex)
			unhexes(t, "0"+digit, "", api.ErrHex)
			unhexes(t, "6162"+digit+"0", "", api.ErrHex)
			unhexes(t, digit+digit, "", api.ErrHex)
			continue
		}
		unhexes(t, digit+"0", string([]byte{byte(16 * at)}), api.OK)
		unhexes(t, "0"+digit, string([]byte{byte(at)}), api.OK)
	}
}

func TestUnhexIsRefused(t *testing.T) {
	for _, text := range []string{"0", "000", "61626", "a", "F", "ABCD", "aB", "0x61", " 61", "61 ", "6 1", "61\n", "é", "６1", repeated("0", 999), repeated("00", 999) + "0G"} {
		unhexes(t, text, "", api.ErrHex)
	}
}

// P2.6

func TestNewHasherHasSeenNothing(t *testing.T) {
	h := NewHasher()
	if h == nil {
		t.Fatal("NewHasher answers nil")
	}
	sums(t, h, "")
	is(t, "MD5", Hex(h.MD5()), ofEmpty)
	is(t, "Write of nothing", h.Write(""), api.OK)
	sums(t, h, "")
}

func TestHasherThatNobodyMade(t *testing.T) {
	var h Hasher
	sums(t, &h, "")
	for range 200 {
		is(t, "Write", h.Write("x"), api.OK)
	}
	sums(t, &h, repeated("x", 200))
}

func TestHasherOfAllLengths(t *testing.T) {
	d := dice(9)
	for _, n := range edges() {
		text := d.bytes(n)
		whole, inParts := NewHasher(), NewHasher()
		is(t, "Write", whole.Write(text), api.OK)
		for _, part := range d.cut(text) {
			is(t, "Write", inParts.Write(part), api.OK)
		}
		sums(t, whole, text)
		sums(t, inParts, text)
	}
}

func TestHasherOfTwoPieces(t *testing.T) {
	d := dice(10)
	text := d.bytes(260)
	for first := range 131 {
		for second := range 130 {
			h := NewHasher()
			h.Write(text[:first])
			h.Write(text[first : first+second])
			if h.MD5() != MD5(text[:first+second]) || h.CRC() != CRC(text[:first+second]) || h.Count() != first+second {
				t.Errorf("behind %d and %d bytes", first, second)
			}
		}
	}
}

func TestAskingEndsNothing(t *testing.T) {
	asked, unasked := NewHasher(), NewHasher()
	came := ""
	d := dice(11)
	for range 200 {
		data := d.bytes(d.roll(70))
		came += data
		asked.Write(data)
		unasked.Write(data)
		sums(t, asked, came)
		sums(t, asked, came)
	}
	sums(t, unasked, came)
}

// inUse is the memory that is held behind a collection.
func inUse() int {
	runtime.GC()
	var m runtime.MemStats
	runtime.ReadMemStats(&m)
	return int(m.HeapAlloc)
}

func TestHasherStaysSmall(t *testing.T) {
	const long = 1 << 20
	before := inUse()
	var hashers []*Hasher
	for i := range 40 {
		h := NewHasher()
		h.Write(repeated("x", i))
		h.Write(repeated("y", long+i))
		hashers = append(hashers, h)
	}
	if grown := inUse() - before; grown > long {
		t.Errorf("%d Hashers hold %d bytes", len(hashers), grown)
	}
	for i, h := range hashers {
		is(t, "Count", h.Count(), long+2*i)
	}
}
