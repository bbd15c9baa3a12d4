package plain

import "testing"

func TestPaths(t *testing.T) {
	for _, x := range []struct{ dir, name, path string }{
		{"", "a", "a"},
		{"a", "b", "a/b"},
		{"a/b-c", "d.e", "a/b-c/d.e"},
	} {
		if got := Under(x.dir, x.name); got != x.path {
			t.Errorf("Under(%q, %q) = %q", x.dir, x.name, got)
		}
		if got := Parent(x.path); got != x.dir {
			t.Errorf("Parent(%q) = %q", x.path, got)
		}
	}
	if got := Parent(""); got != "" {
		t.Errorf("the root's parent: %q", got)
	}
}
