package plain

import (
	"strings"
	"testing"
)

func TestNumber(t *testing.T) {
	for text, want := range map[string]int{"0": 0, "1": 1, "9": 9, "10": 10, "1024": 1024, "999999": 999999} {
		if n, ok := Number(text, 6); n != want || !ok {
			t.Errorf("Number(%q) = %d, %v", text, n, ok)
		}
	}
	if n, ok := Number("999999999999999999", 18); n != 999999999999999999 || !ok {
		t.Errorf("eighteen digits: %d, %v", n, ok)
	}
	for _, text := range []string{"", "00", "01", "1000000", "-1", "+1", "1 ", " 1", "1x", "x1", "1/", "1:", "0x1", "1_0", "٣"} {
		if n, ok := Number(text, 6); n != 0 || ok {
			t.Errorf("Number(%q) = %d, %v", text, n, ok)
		}
	}
}

func TestListOf(t *testing.T) {
	for want, list := range map[string][]int{"-": nil, "0": {0}, "-1": {-1}, "3,-1,20": {3, -1, 20}} {
		if text := ListOf(list); text != want {
			t.Errorf("ListOf(%v) = %q", list, text)
		}
	}
	if ListOf([]int{}) != "-" {
		t.Error("ListOf of an empty list")
	}
}

func TestIsStore(t *testing.T) {
	for _, text := range []string{"a", "z", "east", "a-9", "a0-", "z--", strings.Repeat("s", 40)} {
		if !IsStore(text) {
			t.Errorf("%q is no store's name", text)
		}
	}
	for _, text := range []string{"", "9a", "-a", "East", "eAst", "a_b", "a.b", "a b", "a\n", "é", strings.Repeat("s", 41)} {
		if IsStore(text) {
			t.Errorf("%q is a store's name", text)
		}
	}
}

func TestIsOf(t *testing.T) {
	if !IsOf("", "") || !IsOf("abba", "ab") || IsOf("abc", "ab") || IsOf("a", "") {
		t.Error("IsOf")
	}
}
