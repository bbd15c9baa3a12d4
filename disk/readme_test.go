package disk

import (
	"testing"

	"granary/api"
)

// What README.md shows.
func TestReadme(t *testing.T) {
	d := fresh(t, 1000)
	done(t, d.Mkdir("a"), d.Create(Path("a", "f")), d.Append("a/f", "hello"))
	data, e := d.Read("a/f", 1, 3)
	is(t, "Read", e, api.OK)
	is(t, "Read", data, "ell")
	done(t, d.Sync("a/f"), d.SyncDir("a"), d.SyncDir(""), d.Arm(1), d.Append("a/f", " you"))
	is(t, "Remove", d.Remove("a/f"), api.ErrDown)
	is(t, "Crash", d.Crash(0, 2), 1)
	holds(t, d, "a/f", "hello y")
}
