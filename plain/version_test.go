package plain

import "testing"

func TestIsVersion(t *testing.T) {
	for n, want := range map[int]bool{-1 << 63: false, -1: false, 0: false, 1: true, 999999: true, 1000000: false, 1<<63 - 1: false} {
		if IsVersion(n) != want {
			t.Errorf("IsVersion(%d) = %v", n, !want)
		}
	}
}

func TestNamesOfVersions(t *testing.T) {
	for n, name := range map[int]string{1: "part-1", 10: "part-10", 999999: "part-999999"} {
		if NameOf("part-", n) != name {
			t.Errorf("NameOf(%d) = %q", n, NameOf("part-", n))
		}
		if v, ok := VersionOf("part-", name); v != n || !ok {
			t.Errorf("VersionOf(%q) = %d, %v", name, v, ok)
		}
	}
	for _, name := range []string{"", "part", "part-", "part-0", "part-01", "part-x", "part-1x", "part--1", "part-+1", "part-1000000", "part-0000001", "Part-1", "part-1 ", "apart-1", "1", "gone-1", "part-1.5", "part-1-2"} {
		if v, ok := VersionOf("part-", name); v != 0 || ok {
			t.Errorf("VersionOf(%q) = %d, %v", name, v, ok)
		}
	}
}
