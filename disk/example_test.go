package disk

import (
	"testing"

	"granary/api"
)

// The chapter's examples, by their numbers.

func TestExample1(t *testing.T) {
	d := fresh(t, 100)
	is(t, "Create a/b", d.Create("a/b"), api.ErrNone)
	done(t, d.Mkdir("a"), d.Create("a/b"))
	is(t, "Create a/b", d.Create("a/b"), api.ErrThere)
	is(t, "Create a/b/c", d.Create("a/b/c"), api.ErrKind)
	is(t, "Mkdir the root", d.Mkdir(""), api.ErrThere)
	for _, path := range []string{"A", "a//b", "/a", "a/.."} {
		is(t, "Create "+path, d.Create(path), api.ErrPath)
	}
}

func TestExample2(t *testing.T) {
	d := fresh(t, 100)
	done(t, d.Create("f"), d.Append("f", "hello"))
	for _, c := range []struct {
		path  string
		at, n int
		want  string
		e     api.Errno
	}{{"f", 1, 3, "ell", 0}, {"f", 3, 9, "lo", 0}, {"f", 5, 1, "", 0}, {"f", 6, 0, "", api.ErrEnd}, {"f", -1, 0, "", api.ErrArg}, {"g", -1, 0, "", api.ErrArg}, {"g", 0, 0, "", api.ErrNone}, {"", 0, 0, "", api.ErrKind}} {
		if got, e := d.Read(c.path, c.at, c.n); got != c.want || e != c.e {
			t.Errorf("Read(%q, %d, %d) = %q, %d", c.path, c.at, c.n, got, e)
		}
	}
	is(t, "Reads", d.Reads(), 3)
}

func TestExample3(t *testing.T) {
	d := fresh(t, 100)
	done(t, d.Create("f"), d.Append("f", text(60)))
	is(t, "41 more", d.Append("f", text(41)), api.ErrFull)
	done(t, d.Append("f", text(40)))
	is(t, "Used", d.Used(), 100)
	done(t, d.Truncate("f", 10))
	is(t, "Truncate 11", d.Truncate("f", 11), api.ErrEnd)
	is(t, "Used", d.Used(), 10)
	is(t, "Acts", d.Acts(), 4)
	is(t, "Pending", d.Pending(), 4)
}

func TestExample4(t *testing.T) {
	for _, c := range []struct {
		keep, torn, lost int
		there            bool
		want             string
	}{{0, 0, 2, false, ""}, {1, 2, 1, true, "ab"}, {1, 9, 1, true, "abc"}, {9, 9, 0, true, "abc"}} {
		d := fresh(t, 100)
		done(t, d.Create("f"), d.Append("f", "abc"))
		is(t, "Crash", d.Crash(c.keep, c.torn), c.lost)
		if c.there {
			holds(t, d, "f", c.want)
		} else {
			lacks(t, d, "f")
		}
	}
}

func TestExample5(t *testing.T) {
	begin := func() *Disk {
		d := fresh(t, 100)
		done(t, d.Create("f"), d.Append("f", "abc"))
		return d
	}
	d := begin()
	done(t, d.Sync("f"))
	is(t, "Pending", d.Pending(), 1)
	is(t, "Crash", d.Crash(0, 0), 1)
	lacks(t, d, "f")
	d = begin()
	done(t, d.SyncDir(""))
	is(t, "Crash", d.Crash(0, 0), 1)
	holds(t, d, "f", "")
	d = begin()
	done(t, d.Sync("f"), d.SyncDir(""))
	is(t, "Crash", d.Crash(0, 0), 0)
	holds(t, d, "f", "abc")
}

func TestExample6(t *testing.T) {
	for keep, want := range []string{`f file "old"`, `f file "old", t file "new"`, `f file "new"`} {
		d := fresh(t, 100)
		done(t, d.Create("f"), d.Append("f", "old"), d.Sync("f"), d.SyncDir(""))
		done(t, d.Create("t"), d.Append("t", "new"), d.Sync("t"), d.Rename("t", "f"))
		is(t, "Crash", d.Crash(keep, 0), 2-keep)
		is(t, "behind it", dumped(d), want)
	}
}

func TestExample7(t *testing.T) {
	d := fresh(t, 100)
	done(t, d.Mkdir("a"), d.Create("a/x"))
	is(t, "Remove a", d.Remove("a"), api.ErrFilled)
	done(t, d.Rename("a", "b"))
	kindIs(t, d, "b/x", api.IsFile, api.OK)
	is(t, "Rename b/x x", d.Rename("b/x", "x"), api.ErrCross)
	is(t, "Rename b b", d.Rename("b", "b"), api.ErrThere)
	is(t, "Rename the root", d.Rename("", "c"), api.ErrPath)
	done(t, d.Create("y"))
	is(t, "Rename y b", d.Rename("y", "b"), api.ErrThere)
	is(t, "Rename b y", d.Rename("b", "y"), api.ErrThere)
	list, e := d.List("")
	is(t, "List", e, api.OK)
	is(t, "List", listed(list), "b dir 0, y file 0")
}

func TestExample8(t *testing.T) {
	d := fresh(t, 100)
	done(t, d.Arm(2), d.Create("f"))
	is(t, "Create f", d.Create("f"), api.ErrThere)
	done(t, d.Append("f", "x"))
	is(t, "Down", d.Down(), false)
	holds(t, d, "f", "x")
	is(t, "Create f", d.Create("f"), api.ErrThere)
	is(t, "Append", d.Append("f", "y"), api.ErrDown)
	is(t, "Down", d.Down(), true)
	_, e := d.Read("f", 0, 1)
	is(t, "Read", e, api.ErrDown)
	is(t, "Create A", d.Create("A"), api.ErrDown)
	is(t, "Arm", d.Arm(-1), api.ErrDown)
	is(t, "Acts", d.Acts(), 2)
	is(t, "Dump", dumped(d), `f file "x"`)
	is(t, "Crash", d.Crash(2, 0), 0)
	is(t, "Down", d.Down(), false)
	holds(t, d, "f", "x")
}

func TestExample9(t *testing.T) {
	for _, safe := range []bool{false, true} {
		d := fresh(t, 100)
		done(t, d.Create("f"), d.Append("f", text(100)), d.Sync("f"), d.SyncDir(""))
		done(t, d.Remove("f"), d.Create("g"), d.Append("g", text(50)), d.Sync("g"))
		if safe {
			done(t, d.SyncDir(""))
			is(t, "Crash", d.Crash(0, 0), 0)
			lacks(t, d, "f")
			holds(t, d, "g", text(50))
		} else {
			is(t, "Crash", d.Crash(0, 0), 2)
			holds(t, d, "f", text(100))
			lacks(t, d, "g")
		}
	}
}

func TestExample10(t *testing.T) {
	for _, safe := range []bool{false, true} {
		d := fresh(t, 100)
		done(t, d.Mkdir("a"), d.Create("a/f"), d.SyncDir("a"))
		if safe {
			done(t, d.SyncDir(""))
			is(t, "Crash", d.Crash(0, 0), 0)
			holds(t, d, "a/f", "")
		} else {
			is(t, "Crash", d.Crash(0, 0), 1)
			lacks(t, d, "a")
		}
	}
}
