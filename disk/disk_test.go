package disk

import (
	"reflect"
	"strings"
	"testing"

	"granary/api"
)

// furnished has a directory with a file in it, a file, and an empty directory, none of it safe.
func furnished(t *testing.T) *Disk {
	t.Helper()
	d := fresh(t, 100)
	done(t, d.Mkdir("dir"), d.Create("dir/file"), d.Create("file"), d.Append("file", "abc"), d.Mkdir("empty"))
	return d
}

// P1.1

func TestNilComesFirst(t *testing.T) {
	for _, c := range calls() {
		for _, path := range []string{"", "a", "A", "a/b"} {
			if e, zero := c.run(nil, path); e != api.ErrNil || !zero {
				t.Errorf("%s(%q) of no disk: %d", c.name, path, e)
			}
		}
	}
}

func TestDownComesBeforeThePath(t *testing.T) {
	d := furnished(t)
	done(t, d.Arm(0))
	is(t, "the act that takes it down", d.Append("file", "x"), api.ErrDown)
	was := shapeOf(d)
	for _, c := range calls() {
		for _, path := range []string{"", "A", "file", "none", "none/a", "file/a"} {
			if e, zero := c.run(d, path); e != api.ErrDown || !zero {
				t.Errorf("%s(%q): %d, want ErrDown", c.name, path, e)
			}
		}
	}
	if _, e := d.Read("A", -1, -1); e != api.ErrDown {
		t.Errorf("Read: %d", e)
	}
	is(t, "Truncate", d.Truncate("A", -1), api.ErrDown)
	is(t, "Rename", d.Rename("", "a/b"), api.ErrDown)
	sameShape(t, "behind refusals", shapeOf(d), was)
}

func TestWhatIsNoPath(t *testing.T) {
	d := furnished(t)
	was := shapeOf(d)
	long := strings.Repeat("n", api.MaxName+1)
	for _, path := range []string{"/", "/a", "a/", "a//b", "//", ".", "..", "a/.", "../a", "A", "a b", "a\\b", "a\x00", "\xff", "é", "`", "{", ":", "@", "[", ",", "*", long, "file/" + long, "a/b/c/d/e/f/g/h/i", strings.Repeat("a/", 1000) + "a", strings.Repeat("/", 1<<20)} {
		for _, c := range calls() {
			if e, zero := c.run(d, path); e != api.ErrPath || !zero {
				t.Errorf("%s(%.50q): %d, want ErrPath", c.name, path, e)
			}
		}
	}
	sameShape(t, "behind refusals", shapeOf(d), was)
}

func TestWhatIsAPath(t *testing.T) {
	d := furnished(t)
	long := strings.Repeat("n", api.MaxName)
	deep := strings.TrimSuffix(strings.Repeat(long+"/", api.MaxDepth), "/")
	for _, path := range []string{"a", "z", "0", "9", "-", "_", "...", ".a", "a.", "..a", long, deep, "a/b/c/d/e/f/g/h", "a-b_c.9"} {
		kindIs(t, d, path, 0, api.ErrNone)
	}
	path := ""
	for i := range api.MaxDepth {
		path = strings.TrimPrefix(Path(path, long), "/")
		if e := d.Mkdir(path); e != api.OK {
			t.Errorf("Mkdir of depth %d: %d", i+1, e)
		}
	}
	kindIs(t, d, deep, api.IsDir, api.OK)
	is(t, "one too deep", d.Mkdir(deep+"/a"), api.ErrPath)
}

func TestRootIsNotRenamedOrRemoved(t *testing.T) {
	d := furnished(t)
	for _, e := range []api.Errno{d.Remove(""), d.Rename("", "a"), d.Rename("file", ""), d.Rename("", ""), d.Rename("", "A"), d.Rename("file", "A"), d.Rename("A", "file"), d.Rename("", "dir/a")} {
		is(t, "the root, or no path", e, api.ErrPath)
	}
}

func TestNumbersComeBehindThePathAndAheadOfTheThing(t *testing.T) {
	d := furnished(t)
	least := -greatest - 1
	for _, n := range []int{-1, least} {
		for _, path := range []string{"", "file", "dir", "none", "none/a", "file/a"} {
			is(t, "Truncate "+path, d.Truncate(path, n), api.ErrArg)
			for _, at := range [][2]int{{n, 0}, {0, n}, {n, n}, {n, 9}, {9, n}} {
				if s, e := d.Read(path, at[0], at[1]); s != "" || e != api.ErrArg {
					t.Errorf("Read(%q, %d, %d) = %q, %d", path, at[0], at[1], s, e)
				}
			}
		}
		is(t, "Truncate of no path", d.Truncate("A", n), api.ErrPath)
		_, e := d.Read("A", n, n)
		is(t, "Read of no path", e, api.ErrPath)
	}
}

func TestCrossComesAheadOfTheParent(t *testing.T) {
	d := furnished(t)
	for _, c := range [][2]string{{"dir/file", "file"}, {"file", "dir/file"}, {"none/a", "gone/a"}, {"file/a", "a"}, {"dir/file", "empty/file"}, {"dir/a/b", "dir/b"}, {"dir", "dir/a"}} {
		is(t, "Rename "+c[0]+" "+c[1], d.Rename(c[0], c[1]), api.ErrCross)
	}
}

func TestParentComesAheadOfTheThing(t *testing.T) {
	d := furnished(t)
	was := shapeOf(d)
	for path, want := range map[string]api.Errno{"none/a": api.ErrNone, "none/a/b": api.ErrNone, "dir/none/a": api.ErrNone, "file/a": api.ErrKind, "file/a/b": api.ErrKind, "dir/file/a": api.ErrKind, "dir/file/a/b/c": api.ErrKind} {
		for _, c := range calls() {
			if e, zero := c.run(d, path); e != want || !zero {
				t.Errorf("%s(%q): %d, want %d", c.name, path, e, want)
			}
		}
	}
	sameShape(t, "behind refusals", shapeOf(d), was)
}

func TestRefusalIsFreeWhileArmed(t *testing.T) {
	d := furnished(t)
	done(t, d.Arm(0))
	was := shapeOf(d)
	is(t, "Create", d.Create("file"), api.ErrThere)
	is(t, "Mkdir", d.Mkdir(""), api.ErrThere)
	is(t, "Append", d.Append("file", text(98)), api.ErrFull)
	is(t, "Truncate", d.Truncate("file", 4), api.ErrEnd)
	is(t, "Rename", d.Rename("file", "dir"), api.ErrThere)
	is(t, "Remove", d.Remove("dir"), api.ErrFilled)
	is(t, "Sync", d.Sync("dir"), api.ErrKind)
	is(t, "SyncDir", d.SyncDir("none"), api.ErrNone)
	sameShape(t, "behind refusals", shapeOf(d), was)
}

// P1.2

func TestPath(t *testing.T) {
	for _, c := range []struct {
		want  string
		names []string
	}{{"", nil}, {"", []string{""}}, {"a", []string{"a"}}, {"a/b", []string{"a", "b"}}, {"a//b", []string{"a", "", "b"}}, {"/", []string{"", ""}}, {"A B/../x/y", []string{"A B", "..", "x/y"}}} {
		was := append([]string(nil), c.names...)
		is(t, "Path", Path(c.names...), c.want)
		if !reflect.DeepEqual(c.names, was) {
			t.Errorf("Path changed its names to %q", c.names)
		}
	}
}

func TestNew(t *testing.T) {
	for _, n := range []int{-1, -greatest - 1, api.MaxDisk + 1, greatest} {
		if d, e := New(n); d != nil || e != api.ErrArg {
			t.Errorf("New(%d) = %v, %d", n, d, e)
		}
	}
	for _, n := range []int{0, 1, api.MaxDisk} {
		d := fresh(t, n)
		sameShape(t, "a new disk", shapeOf(d), shape{Capacity: n})
		kindIs(t, d, "", api.IsDir, api.OK)
		done(t, d.Create("a")) // it is not armed
	}
}

func TestDisksShareNothing(t *testing.T) {
	a, b := fresh(t, 100), fresh(t, 100)
	done(t, a.Create("f"), a.Append("f", "abc"), a.Sync("f"), a.SyncDir(""), a.Arm(0))
	a.Remove("f")
	sameShape(t, "the other disk", shapeOf(b), shape{Capacity: 100})
	done(t, b.Create("f"))
	holds(t, b, "f", "")
}

func TestNoDisk(t *testing.T) {
	var none *Disk
	for _, d := range []*Disk{none, {}} { // one that New did not make is none either
		sameShape(t, "no disk", shapeOf(d), shape{})
		is(t, "Crash", d.Crash(1, 1), 0)
		is(t, "Arm", d.Arm(1), api.ErrNil)
		is(t, "Rename", d.Rename("a", "b"), api.ErrNil)
		for _, c := range calls() {
			if e, zero := c.run(d, "a"); e != api.ErrNil || !zero {
				t.Errorf("%s of no disk: %d", c.name, e)
			}
		}
	}
}

// P1.3

func TestMakeThings(t *testing.T) {
	d := fresh(t, 100)
	done(t, d.Mkdir("a"), d.Create("b"), d.Mkdir("a/c"), d.Create("a/c/d"))
	kindIs(t, d, "a", api.IsDir, api.OK)
	kindIs(t, d, "a/c", api.IsDir, api.OK)
	holds(t, d, "b", "")
	holds(t, d, "a/c/d", "")
	for _, path := range []string{"", "a", "b", "a/c", "a/c/d"} {
		is(t, "Mkdir "+path, d.Mkdir(path), api.ErrThere)
		is(t, "Create "+path, d.Create(path), api.ErrThere)
	}
	is(t, "Acts", d.Acts(), 4)
	is(t, "Pending", d.Pending(), 4)
}

func TestNewThingIsEmpty(t *testing.T) {
	d := fresh(t, 100)
	done(t, d.Create("f"), d.Append("f", "old"), d.Remove("f"), d.Create("f"))
	holds(t, d, "f", "")
	done(t, d.Mkdir("a"), d.Create("a/x"), d.Remove("a/x"), d.Remove("a"), d.Mkdir("a"))
	list, e := d.List("a")
	if len(list) != 0 || e != api.OK {
		t.Errorf("List of a new directory: %v, %d", list, e)
	}
}

// P1.4

func TestAppend(t *testing.T) {
	d := fresh(t, 10)
	done(t, d.Mkdir("a"), d.Create("f"), d.Append("f", "\x00\xff"), d.Append("f", ""), d.Append("f", "é"))
	holds(t, d, "f", "\x00\xffé")
	is(t, "nothing there", d.Append("g", "x"), api.ErrNone)
	is(t, "a directory", d.Append("a", "x"), api.ErrKind)
	is(t, "the root", d.Append("", text(11)), api.ErrKind)
	is(t, "nothing there, and no room", d.Append("g", text(11)), api.ErrNone)
	is(t, "one too many", d.Append("f", text(7)), api.ErrFull)
	done(t, d.Append("f", text(6)), d.Append("f", ""))
	is(t, "full", d.Append("f", "x"), api.ErrFull)
	holds(t, d, "f", "\x00\xffé"+text(6))
	done(t, d.Create("g"))
	is(t, "another file has no room either", d.Append("g", "x"), api.ErrFull)
	is(t, "a disk without room", fresh(t, 0).Append("", ""), api.ErrKind)
}

func TestTruncate(t *testing.T) {
	d := fresh(t, 10)
	done(t, d.Mkdir("a"), d.Create("f"), d.Append("f", "abcdef"))
	is(t, "nothing there", d.Truncate("g", 0), api.ErrNone)
	is(t, "a directory", d.Truncate("a", 0), api.ErrKind)
	is(t, "the root", d.Truncate("", 0), api.ErrKind)
	is(t, "one beyond", d.Truncate("f", 7), api.ErrEnd)
	is(t, "far beyond", d.Truncate("f", greatest), api.ErrEnd)
	done(t, d.Truncate("f", 6), d.Truncate("f", 3))
	holds(t, d, "f", "abc")
	is(t, "what was cut is gone", d.Truncate("f", 4), api.ErrEnd)
	done(t, d.Append("f", "xy"))
	holds(t, d, "f", "abcxy")
	done(t, d.Truncate("f", 0))
	holds(t, d, "f", "")
	is(t, "Used", d.Used(), 0)
	is(t, "Pending", d.Pending(), 7)
}

// P1.5

func TestRename(t *testing.T) {
	d := furnished(t)
	done(t, d.Create("other"), d.Append("other", "12345"))
	is(t, "nothing there", d.Rename("none", "x"), api.ErrNone)
	is(t, "nothing to itself", d.Rename("none", "none"), api.ErrNone)
	is(t, "nothing onto something", d.Rename("none", "file"), api.ErrNone)
	is(t, "a file to itself", d.Rename("file", "file"), api.ErrThere)
	is(t, "a directory to itself", d.Rename("dir", "dir"), api.ErrThere)
	is(t, "a file onto a directory", d.Rename("file", "empty"), api.ErrThere)
	is(t, "a directory onto a file", d.Rename("empty", "file"), api.ErrThere)
	is(t, "a directory onto a directory", d.Rename("dir", "empty"), api.ErrThere)
	is(t, "Used", d.Used(), 8)
	pending := d.Pending()
	done(t, d.Rename("file", "other"), d.Rename("dir", "moved"))
	is(t, "each is one change", d.Pending(), pending+2)
	is(t, "Used", d.Used(), 3)
	lacks(t, d, "file")
	lacks(t, d, "dir")
	lacks(t, d, "dir/file")
	holds(t, d, "other", "abc")
	holds(t, d, "moved/file", "")
	done(t, d.Append("other", "d"), d.Rename("moved/file", "moved/g"))
	holds(t, d, "other", "abcd")
	holds(t, d, "moved/g", "")
}

func TestRemove(t *testing.T) {
	d := furnished(t)
	is(t, "nothing there", d.Remove("none"), api.ErrNone)
	is(t, "filled", d.Remove("dir"), api.ErrFilled)
	done(t, d.Remove("file"), d.Remove("empty"), d.Remove("dir/file"), d.Remove("dir"))
	is(t, "gone already", d.Remove("file"), api.ErrNone)
	is(t, "Used", d.Used(), 0)
	is(t, "what is left", len(d.Dump()), 0)
	is(t, "Pending", d.Pending(), 9)
}

// P1.6

func TestRead(t *testing.T) {
	d := furnished(t)
	for _, c := range []struct {
		at, n int
		want  string
		e     api.Errno
	}{{0, 0, "", 0}, {0, 1, "a", 0}, {0, 3, "abc", 0}, {0, 4, "abc", 0}, {1, 1, "b", 0}, {2, 5, "c", 0}, {3, 0, "", 0}, {3, 9, "", 0}, {0, greatest, "abc", 0}, {2, greatest, "c", 0}, {4, 0, "", api.ErrEnd}, {4, 1, "", api.ErrEnd}, {greatest, greatest, "", api.ErrEnd}} {
		got, e := d.Read("file", c.at, c.n)
		if got != c.want || e != c.e {
			t.Errorf("Read(%d, %d) = %q, %d, want %q, %d", c.at, c.n, got, e, c.want, c.e)
		}
	}
	is(t, "Reads counts what answered OK", d.Reads(), 10)
	for path, want := range map[string]api.Errno{"": api.ErrKind, "dir": api.ErrKind, "none": api.ErrNone, "dir/none": api.ErrNone} {
		_, e := d.Read(path, 9, 9)
		is(t, "Read "+path, e, want)
	}
	is(t, "Reads behind refusals", d.Reads(), 10)
}

func TestReadIsACopy(t *testing.T) {
	d := furnished(t)
	got, _ := d.Read("file", 0, 3)
	dump := d.Dump()
	done(t, d.Truncate("file", 0), d.Append("file", "xyz"))
	is(t, "what was read", got, "abc")
	is(t, "what was dumped", dump[3].Data, "abc")
}

func TestSizeAndKind(t *testing.T) {
	d := furnished(t)
	for path, want := range map[string]struct {
		size, kind    int
		ofSize, ofAll api.Errno
	}{"": {0, api.IsDir, api.ErrKind, api.OK}, "dir": {0, api.IsDir, api.ErrKind, api.OK}, "file": {3, api.IsFile, api.OK, api.OK}, "dir/file": {0, api.IsFile, api.OK, api.OK}, "none": {0, 0, api.ErrNone, api.ErrNone}} {
		size, e := d.Size(path)
		if size != want.size || e != want.ofSize {
			t.Errorf("Size(%q) = %d, %d", path, size, e)
		}
		kindIs(t, d, path, want.kind, want.ofAll)
	}
	is(t, "these are no Reads", d.Reads(), 0)
}

func TestList(t *testing.T) {
	d := furnished(t)
	done(t, d.Create("dir-"), d.Create("dir.x"), d.Create("0"), d.Create("_"), d.Create("fil"))
	want := "0 file 0, _ file 0, dir dir 0, dir- file 0, dir.x file 0, empty dir 0, fil file 0, file file 3"
	list, e := d.List("")
	is(t, "List", e, api.OK)
	is(t, "List", listed(list), want)
	list[0].Name = "changed"
	_ = append(list, api.Entry{Name: "more"})
	list, _ = d.List("")
	is(t, "List behind a write into its answer", listed(list), want)
	for path, want := range map[string]struct {
		list string
		e    api.Errno
	}{"dir": {"file file 0", api.OK}, "empty": {"", api.OK}, "file": {"", api.ErrKind}, "none": {"", api.ErrNone}} {
		list, e := d.List(path)
		is(t, "List "+path, e, want.e)
		is(t, "List "+path, listed(list), want.list)
	}
}

func TestDump(t *testing.T) {
	d := furnished(t)
	done(t, d.Create("dir-"), d.Create("dir.x"), d.Create("dir0"), d.Mkdir("dir/b"), d.Create("dir/b/c"), d.Append("dir/b/c", "1"))
	want := `dir dir "", dir- file "", dir.x file "", dir/b dir "", dir/b/c file "1", dir/file file "", dir0 file "", empty dir "", file file "abc"`
	is(t, "Dump", dumped(d), want)
	d.Dump()[0].Path = "changed"
	done(t, d.Arm(0))
	d.Remove("file")
	is(t, "Down", d.Down(), true)
	is(t, "Dump while it is down", dumped(d), want)
}

// P1.7

func TestCounts(t *testing.T) {
	d := fresh(t, 100)
	done(t, d.Create("f"), d.Append("f", "abcde"), d.Sync("f"), d.Create("g"), d.Append("g", "xy"), d.SyncDir(""))
	d.Create("f")
	d.Append("none", "x")
	d.Read("f", 0, 0)
	sameShape(t, "counts", shapeOf(d), shape{Stored: d.Dump(), Used: 7, Capacity: 100, Acts: 6, Reads: 1, Pending: 1})
	d.Crash(0, 0)
	sameShape(t, "counts behind a crash", shapeOf(d), shape{Stored: d.Dump(), Used: 5, Capacity: 100, Acts: 6, Reads: 1})
}

func TestUsedAboveCapacity(t *testing.T) {
	d := fresh(t, 100)
	done(t, d.Mkdir("a"), d.Create("g"), d.SyncDir(""), d.Create("a/f"), d.Append("a/f", text(90)), d.Sync("a/f"), d.SyncDir("a"))
	done(t, d.Remove("a/f"), d.Append("g", text(100)), d.Sync("g"))
	is(t, "what is lost", d.Crash(0, 0), 1)
	is(t, "Used", d.Used(), 190)
	is(t, "Append of nothing", d.Append("g", ""), api.ErrFull)
	is(t, "Append", d.Append("a/f", "x"), api.ErrFull)
	done(t, d.Truncate("g", 11))
	is(t, "still one too many", d.Append("g", ""), api.ErrFull)
	done(t, d.Truncate("g", 10), d.Append("g", ""), d.Remove("a/f"), d.Append("g", text(90)))
	is(t, "Used", d.Used(), 100)
}

// P1.8

func TestSyncErrors(t *testing.T) {
	d := furnished(t)
	is(t, "Sync of nothing", d.Sync("none"), api.ErrNone)
	is(t, "Sync of a directory", d.Sync("dir"), api.ErrKind)
	is(t, "Sync of the root", d.Sync(""), api.ErrKind)
	is(t, "SyncDir of nothing", d.SyncDir("none"), api.ErrNone)
	is(t, "SyncDir of a file", d.SyncDir("file"), api.ErrKind)
	is(t, "Acts", d.Acts(), 5)
	done(t, d.Sync("file"), d.Sync("file"), d.SyncDir("empty"))
	is(t, "these are acts, pending or not", d.Acts(), 8)
}

func TestSyncIsOfOneFile(t *testing.T) {
	d := fresh(t, 100)
	done(t, d.Create("f"), d.Create("g"), d.SyncDir(""))
	done(t, d.Append("f", "a"), d.Append("g", "1"), d.Append("f", "bcd"), d.Truncate("f", 3), d.Append("g", "2"), d.Append("f", "e"))
	done(t, d.Sync("f"))
	is(t, "Pending", d.Pending(), 2)
	done(t, d.Append("f", "more"))
	is(t, "the order of the others", d.Crash(1, 0), 2)
	holds(t, d, "f", "abce")
	holds(t, d, "g", "1")
}

func TestSyncDirIsOfOneDirectory(t *testing.T) {
	d := fresh(t, 100)
	done(t, d.Mkdir("a"), d.Mkdir("a/b"), d.Create("a/b/f"), d.Append("a/b/f", "x"), d.SyncDir("a"))
	is(t, "Pending", d.Pending(), 3)
	done(t, d.SyncDir(""))
	is(t, "Pending", d.Pending(), 2)
	is(t, "what is lost", d.Crash(0, 0), 2)
	kindIs(t, d, "a/b", api.IsDir, api.OK)
	lacks(t, d, "a/b/f")
}

func TestSyncFollowsTheThingNotTheName(t *testing.T) {
	d := fresh(t, 100)
	done(t, d.Create("f"), d.SyncDir(""), d.Append("f", "abc"), d.Rename("f", "g"), d.Sync("g"))
	is(t, "what is lost", d.Crash(0, 0), 1)
	holds(t, d, "f", "abc")
	lacks(t, d, "g")
	done(t, d.Mkdir("a"), d.SyncDir(""), d.Create("a/x"), d.Rename("a", "b"), d.SyncDir("b"))
	is(t, "what is lost", d.Crash(0, 0), 1)
	kindIs(t, d, "a/x", api.IsFile, api.OK)
	lacks(t, d, "b")
}

func TestPendingOfWhatHasNoName(t *testing.T) {
	d := fresh(t, 100)
	done(t, d.Mkdir("a"), d.Create("a/f"), d.Append("a/f", "abc"), d.Remove("a/f"), d.Remove("a"), d.Create("g"), d.SyncDir(""))
	is(t, "they stay pending", d.Pending(), 3)
	done(t, d.Append("g", "12"), d.Append("g", "34"))
	is(t, "they count in a crash", d.Crash(4, 1), 1)
	holds(t, d, "g", "123")
	is(t, "what is left", len(d.Dump()), 1)
}

func TestWhatCannotComeBackIsForgotten(t *testing.T) {
	d := fresh(t, 100)
	done(t, d.Mkdir("a"), d.Mkdir("a/b"), d.Create("a/b/f"), d.Append("a/b/f", text(50)), d.Sync("a/b/f"), d.SyncDir("a/b"), d.SyncDir("a"), d.SyncDir(""))
	done(t, d.Append("a/b/f", "x"), d.Remove("a/b/f"), d.Create("a/b/g"), d.Append("a/b/g", "y"), d.Remove("a/b/g"), d.Remove("a/b"), d.Remove("a"), d.SyncDir(""))
	is(t, "entries", len(d.seen.entries)+len(d.kept.entries), 0)
	is(t, "bytes", len(d.seen.bytes)+len(d.kept.bytes), 0)
	is(t, "Pending", d.Pending(), 6)
	for _, list := range d.pending {
		for _, c := range list {
			is(t, "a bare change", c, change{order: c.order, on: c.on})
		}
	}
	is(t, "Crash", d.Crash(3, 9), 3)
	is(t, "what is left", len(d.Dump()), 0)
}

// P1.9

func TestArm(t *testing.T) {
	for k := range 5 {
		d := furnished(t)
		acts := d.Acts()
		done(t, d.Arm(9), d.Arm(k))
		for range k {
			done(t, d.Append("file", "x"))
			d.Create("file")
			d.Read("file", 0, 1)
		}
		is(t, "Down", d.Down(), false)
		done(t, func() api.Errno { _, e := d.Size("file"); return e }())
		was := shapeOf(d)
		is(t, "the act too many", d.Append("file", "x"), api.ErrDown)
		was.Down = true
		sameShape(t, "it does nothing", shapeOf(d), was)
		is(t, "Acts", d.Acts(), acts+k)
		is(t, "Arm", d.Arm(-1), api.ErrDown)
		is(t, "Arm", d.Arm(5), api.ErrDown)
		is(t, "it stays down", d.Down(), true)
	}
}

func TestDisarm(t *testing.T) {
	for _, k := range []int{-1, -greatest - 1} {
		d := furnished(t)
		done(t, d.Arm(0), d.Arm(k), d.Remove("file"), d.Remove("empty"))
		is(t, "Down", d.Down(), false)
	}
	d := furnished(t)
	done(t, d.Arm(greatest), d.Remove("file"))
}

func TestEachWritingCallTakesItDown(t *testing.T) {
	for name, run := range map[string]func(d *Disk) api.Errno{
		"Mkdir":    func(d *Disk) api.Errno { return d.Mkdir("new") },
		"Create":   func(d *Disk) api.Errno { return d.Create("new") },
		"Append":   func(d *Disk) api.Errno { return d.Append("file", "") },
		"Truncate": func(d *Disk) api.Errno { return d.Truncate("file", 3) },
		"Rename":   func(d *Disk) api.Errno { return d.Rename("file", "new") },
		"Remove":   func(d *Disk) api.Errno { return d.Remove("file") },
		"Sync":     func(d *Disk) api.Errno { return d.Sync("file") },
		"SyncDir":  func(d *Disk) api.Errno { return d.SyncDir("") },
	} {
		d := furnished(t)
		is(t, "Arm", d.Arm(1), api.OK)
		is(t, name, run(d), api.OK)
		is(t, name+" took one off", d.Create("x"), api.ErrDown)

		d = furnished(t)
		is(t, "Arm", d.Arm(0), api.OK)
		was := shapeOf(d)
		is(t, name, run(d), api.ErrDown)
		was.Down = true
		sameShape(t, name, shapeOf(d), was)
		is(t, name+" and a crash that keeps all", d.Crash(greatest, 0), 0)
		is(t, "Down", d.Down(), false)
		was.Down, was.Pending = false, 0
		sameShape(t, name, shapeOf(d), was)
		done(t, run(d)) // and it is not armed
	}
}

// P1.10

func TestCrashTakesNumbersAsTheyMayBe(t *testing.T) {
	for _, c := range []struct {
		keep, torn, lost int
		want             string
	}{{-1, 0, 3, ""}, {0, 0, 3, ""}, {-greatest - 1, 9, 3, "ab"}, {0, 1, 3, "a"}, {0, -1, 3, ""}, {1, 0, 2, "ab"}, {1, 9, 2, "ab"}, {2, 0, 1, "a"}, {2, 1, 1, "ac"}, {2, greatest, 1, "acd"}, {3, 0, 0, "acd"}, {4, 0, 0, "acd"}, {greatest, greatest, 0, "acd"}} {
		d := fresh(t, 100)
		done(t, d.Create("f"), d.SyncDir(""), d.Append("f", "ab"), d.Truncate("f", 1), d.Append("f", "cd"))
		is(t, "lost", d.Crash(c.keep, c.torn), c.lost)
		holds(t, d, "f", c.want)
		is(t, "Used", d.Used(), len(c.want))
		is(t, "Pending", d.Pending(), 0)
		is(t, "Acts", d.Acts(), 5)
		is(t, "a second crash", d.Crash(0, 0), 0)
		holds(t, d, "f", c.want)
	}
}

func TestTornIsOfAppendsAlone(t *testing.T) {
	for name, run := range map[string]func(d *Disk) api.Errno{
		"Mkdir":    func(d *Disk) api.Errno { return d.Mkdir("new") },
		"Create":   func(d *Disk) api.Errno { return d.Create("new") },
		"Truncate": func(d *Disk) api.Errno { return d.Truncate("file", 1) },
		"Rename":   func(d *Disk) api.Errno { return d.Rename("file", "new") },
		"Remove":   func(d *Disk) api.Errno { return d.Remove("file") },
	} {
		d := furnished(t)
		d.Crash(greatest, 0)
		was := dumped(d)
		done(t, run(d), d.Create("later"))
		is(t, name, d.Crash(0, 9), 2)
		is(t, name, dumped(d), was)
	}
}

func TestCrashMakesSeenWhatIsKept(t *testing.T) {
	d := fresh(t, 100)
	done(t, d.Create("f"), d.Append("f", "abc"))
	d.Crash(9, 0)
	done(t, d.Truncate("f", 1), d.Append("f", "XY")) // what is kept must not be touched by this
	d.Crash(0, 0)
	holds(t, d, "f", "abc")
	done(t, d.Append("f", "d"), d.Sync("f"), d.Truncate("f", 0), d.Append("f", "WXYZ"))
	d.Crash(0, 0)
	holds(t, d, "f", "abcd")
}

func TestLostDirectoryIsEmptyWhenMadeAnew(t *testing.T) {
	d := fresh(t, 100)
	done(t, d.Mkdir("a"), d.Create("a/f"), d.Append("a/f", "abc"), d.Sync("a/f"), d.SyncDir("a"))
	is(t, "lost", d.Crash(0, 0), 1)
	is(t, "Used", d.Used(), 0)
	is(t, "nothing is left of it", len(d.kept.entries)+len(d.kept.bytes), 0)
	done(t, d.Mkdir("a"))
	lacks(t, d, "a/f")
}

func TestRemovedComesBack(t *testing.T) {
	d := fresh(t, 100)
	done(t, d.Mkdir("a"), d.Create("a/f"), d.Append("a/f", "abc"), d.Sync("a/f"), d.SyncDir("a"), d.SyncDir(""))
	done(t, d.Remove("a/f"), d.Remove("a"))
	is(t, "lost", d.Crash(0, 0), 2)
	holds(t, d, "a/f", "abc")
	done(t, d.Remove("a/f"), d.Remove("a"))
	is(t, "lost", d.Crash(1, 0), 1)
	kindIs(t, d, "a", api.IsDir, api.OK)
	lacks(t, d, "a/f")
}

// P1.11

func TestCalm(t *testing.T) {
	paths := []string{"", "a", "a/b", "/", ".", "..", "A", "\x00", "a/b/c/d/e/f/g/h/i", text(1000)}
	numbers := []int{-greatest - 1, -1, 0, 1, 2, 41, greatest}
	d := fresh(t, 10)
	for _, path := range paths {
		for _, n := range numbers {
			for _, m := range numbers {
				d.Read(path, n, m)
				d.Truncate(path, n)
				d.Arm(m)
				for _, c := range calls() {
					c.run(d, path)
				}
				for _, other := range paths {
					d.Rename(path, other)
				}
				d.Crash(n, m)
			}
		}
	}
	is(t, "Down", d.Down(), false)
}
