package plain

import "testing"

func TestPutAndTake(t *testing.T) {
	for _, c := range []struct {
		n, width int
		text     string
	}{
		{0, 0, ""},
		{0, 1, "\x00"},
		{255, 1, "\xff"},
		{258, 2, "\x01\x02"},
		{65535, 2, "\xff\xff"},
		{0x01020304, 4, "\x01\x02\x03\x04"},
		{5, 8, "\x00\x00\x00\x00\x00\x00\x00\x05"},
		{0x0102030405060708, 8, "\x01\x02\x03\x04\x05\x06\x07\x08"},
		{1<<63 - 1, 8, "\x7f\xff\xff\xff\xff\xff\xff\xff"},
		{-1 << 63, 8, "\x80\x00\x00\x00\x00\x00\x00\x00"},
		{-1, 8, "\xff\xff\xff\xff\xff\xff\xff\xff"},
	} {
		if got := string(Put([]byte("ahead"), c.n, c.width)); got != "ahead"+c.text {
			t.Errorf("Put(%d, %d) = %q", c.n, c.width, got)
		}
		if n := Take(c.text); n != c.n {
			t.Errorf("Take(%q) = %d", c.text, n)
		}
	}
}
