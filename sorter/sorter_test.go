package sorter

import (
	"slices"
	"strings"
	"testing"
	"unsafe"

	"granary/api"
	"granary/disk"
)

// P7.1

func TestNew(t *testing.T) {
	d := fresh(t, 100)
	done(t, d.Mkdir("there"), d.Create("file"))
	for _, c := range []struct {
		d           *disk.Disk
		dir         string
		memory, fan int
		want        api.Errno
	}{
		{nil, "a", 100, 2, api.ErrNil},
		{nil, "A", 0, 1, api.ErrNil},
		{d, "a", 0, 2, api.ErrArg},
		{d, "a", -1, 2, api.ErrArg},
		{d, "a", leastInt, 2, api.ErrArg},
		{d, "a", api.MaxDisk + 1, 2, api.ErrArg},
		{d, "a", mostInt, 2, api.ErrArg},
		{d, "a", 100, 1, api.ErrArg},
		{d, "a", 100, 0, api.ErrArg},
		{d, "a", 100, -2, api.ErrArg},
		{d, "a", 100, leastInt, api.ErrArg},
		{d, "a", 100, 17, api.ErrArg},
		{d, "a", 100, mostInt, api.ErrArg},
		{d, "A", 0, 2, api.ErrArg},
		{d, "there", 100, 17, api.ErrArg},
		{d, "A", 100, 2, api.ErrPath},
		{d, "there/", 100, 2, api.ErrPath},
		{d, "", 100, 2, api.ErrThere},
		{d, "there", 100, 2, api.ErrThere},
		{d, "file", 100, 2, api.ErrThere},
		{d, "none/a", 100, 2, api.ErrNone},
		{d, "file/a", 100, 2, api.ErrKind},
		{&disk.Disk{}, "a", 100, 2, api.ErrNil},
	} {
		if s, e := New(c.d, c.dir, c.memory, c.fan); s != nil || e != c.want {
			t.Errorf("New(%q, %d, %d) = %v, %d, want %d", c.dir, c.memory, c.fan, s, e, c.want)
		}
	}
	is(t, "acts", d.Acts(), 2)
	is(t, "things", len(d.Dump()), 2)
}

func TestNewMakesADirectory(t *testing.T) {
	for _, c := range []struct{ memory, fan int }{{1, 2}, {1, 16}, {2, 3}, {api.MaxDisk, 2}, {api.MaxDisk, 16}} {
		d := fresh(t, 0)
		s := on(t, d, "s", c.memory, c.fan)
		is(t, "acts", d.Acts(), 1)
		is(t, "things", len(d.Dump()), 1)
		kind, e := d.Kind("s")
		is(t, "kind", kind, api.IsDir)
		is(t, "kind", e, api.OK)
		is(t, "Runs", s.Runs(), 0)
		is(t, "Peak", s.Peak(), 0)
		is(t, "it takes rows", s.Finish(), api.OK)
	}
}

func TestNewOnADiskThatGoesDown(t *testing.T) {
	d := fresh(t, 100)
	done(t, d.Arm(0))
	for range 2 {
		s, e := New(d, "s", 100, 2)
		is(t, "New", e, api.ErrDown)
		is(t, "New", s, nil)
	}
	_, e := New(d, "s", 100, 1)
	is(t, "New", e, api.ErrArg)
}

func TestNoSorter(t *testing.T) {
	for _, s := range []*Sorter{nil, {}} { // one that New did not make is none either
		for range 2 {
			is(t, "Add", s.Add("", "", ""), api.ErrNil)
			is(t, "Add of what is no row", s.Add(text(33), "", ""), api.ErrNil)
			is(t, "Finish", s.Finish(), api.ErrNil)
			nextIs(t, s, api.Row{}, api.ErrNil)
			is(t, "Close", s.Close(), api.ErrNil)
			is(t, "Peak", s.Peak(), 0)
			is(t, "Runs", s.Runs(), 0)
			if s.All() == nil {
				t.Fatal("All gives no iterator")
			}
			for row := range s.All() {
				t.Errorf("All has %+v", row)
			}
		}
	}
}

func TestSortersShareNothing(t *testing.T) {
	d, one := made(t, 1000, 100, 2)
	other := on(t, d, "other", 100, 2)
	heavies(t, one, 50, 50, 50, 40)
	heavies(t, other, 20)
	done(t, other.Finish(), one.Finish())
	is(t, "Runs", one.Runs()*10+other.Runs(), 21)
	is(t, "Peak", other.Peak(), 20)
	nextIs(t, other, api.Row{Hash: "h", Key: "k", Value: "vv"}, api.OK)
	done(t, other.Close())
	nextIs(t, one, api.Row{Hash: "h", Key: "k", Value: text(32)}, api.OK)
	is(t, "the directory", lies(d), "run-1:100 run-2:90")
}

// P7.2

func TestRowLengths(t *testing.T) {
	for _, c := range []struct {
		hash, key, value int
		want             api.Errno
	}{
		{0, 0, 0, api.OK},
		{32, 0, 0, api.OK},
		{0, 255, 0, api.OK},
		{0, 0, 4096, api.OK},
		{32, 255, 4096, api.OK},
		{33, 0, 0, api.ErrArg},
		{0, 256, 0, api.ErrArg},
		{0, 0, 4097, api.ErrArg},
		{33, 256, 4097, api.ErrArg},
		{1 << 16, 0, 0, api.ErrArg},
		{0, 1 << 16, 0, api.ErrArg},
		{0, 0, 1 << 20, api.ErrArg},
	} {
		d, s := made(t, 10000, 2*4399, 2)
		row := api.Row{Hash: text(c.hash), Key: text(c.key), Value: text(c.value)}
		is(t, "Add", s.Add(row.Hash, row.Key, row.Value), c.want)
		done(t, s.Finish())
		if c.want != api.OK {
			nextIs(t, s, api.Row{}, api.ErrEnd)
			continue
		}
		is(t, "Peak", s.Peak(), 16+c.hash+c.key+c.value)
		holds(t, d, "s/run-1", bytesOf(row))
		nextIs(t, s, row, api.OK)
		nextIs(t, s, api.Row{}, api.ErrEnd)
	}
	_, s := made(t, 10000, 1, 2)
	is(t, "a length comes ahead of a weight", s.Add(text(33), "", ""), api.ErrArg)
	is(t, "a length comes ahead of a weight", s.Add("", "", text(4097)), api.ErrArg)
}

func TestRowsThatAreTooHeavy(t *testing.T) {
	for fan := 2; fan <= 16; fan++ {
		for _, c := range []struct {
			memory, weight int
			want           api.Errno
		}{
			{fan * 16, 16, api.OK},
			{fan*16 - 1, 16, api.ErrRow},
			{fan * 16, 17, api.ErrRow},
			{fan * 100, 100, api.OK},
			{fan*100 - 1, 100, api.ErrRow},
			{fan*100 + fan - 1, 101, api.ErrRow},
			{fan * 4399, 4399, api.OK},
			{fan*4399 - 1, 4399, api.ErrRow},
			{1, 16, api.ErrRow},
			{api.MaxDisk, 4399, api.OK},
		} {
			_, s := made(t, 0, c.memory, fan)
			length := c.weight - 16
			hash := min(length, 32)
			key := min(length-hash, 255)
			is(t, "Add", s.Add(text(hash), text(key), text(length-hash-key)), c.want)
			if c.want == api.OK {
				is(t, "Peak", s.Peak(), c.weight)
			}
		}
	}
}

func TestARefusedRowIsNotTaken(t *testing.T) {
	d, s := made(t, 1000, 100, 2)
	heavies(t, s, 50)
	acts := d.Acts()
	for range 5 {
		is(t, "too heavy", heavy(s, 51), api.ErrRow)
		is(t, "too long", s.Add("", text(256), ""), api.ErrArg)
	}
	is(t, "acts", d.Acts(), acts)
	is(t, "Peak", s.Peak(), 50)
	heavies(t, s, 50)
	is(t, "they were both held", lies(d), "")
	done(t, s.Finish())
	for seq := range 2 {
		nextIs(t, s, api.Row{Hash: "h", Key: "k", Value: text(32), Seq: seq}, api.OK)
	}
	nextIs(t, s, api.Row{}, api.ErrEnd)
}

func TestFlush(t *testing.T) {
	for last, want := range map[int]string{26: "", 27: "run-1:74"} { // 74 and 26 are just the memory
		d, s := made(t, 1000, 100, 2)
		heavies(t, s, 37, 37)
		acts := d.Acts()
		heavies(t, s, last)
		is(t, "the directory", lies(d), want)
		is(t, "acts", d.Acts()-acts, 2*s.Runs())
		is(t, "Peak", s.Peak(), map[int]int{26: 100, 27: 74}[last])
	}
	d, s := made(t, 1000, 100, 2)
	heavies(t, s, 50, 50, 50)
	is(t, "behind a flush none is held", lies(d), "run-1:100")
	heavies(t, s, 50)
	is(t, "but the row that came", lies(d), "run-1:100")
	heavies(t, s, 18)
	is(t, "the directory", lies(d), "run-1:100 run-2:100")
}

func TestRunsAreSorted(t *testing.T) {
	d, s := made(t, 1000, 100, 2)
	done(t, s.Add("b", "\x00", "1"), s.Add("b", "", "22"), s.Add("a", "\xff", ""), s.Add("b", "", "333"))
	is(t, "the directory", lies(d), "")
	done(t, s.Add("a", "", text(30)))
	holds(t, d, "s/run-1", bytesOf(
		api.Row{Hash: "a", Key: "\xff", Seq: 2},
		api.Row{Hash: "b", Value: "22", Seq: 1},
		api.Row{Hash: "b", Value: "333", Seq: 3},
		api.Row{Hash: "b", Key: "\x00", Value: "1", Seq: 0},
	))
	done(t, s.Finish())
	holds(t, d, "s/run-2", bytesOf(api.Row{Hash: "a", Value: text(30), Seq: 4}))
}

func TestABytesForm(t *testing.T) {
	d, s := made(t, 100000, 50000, 2)
	for range 300 {
		adds(t, s, "")
	}
	done(t, s.Add("\xff\x01", text(255), text(4096)), s.Finish())
	size, e := d.Size("s/run-1")
	done(t, e)
	got, e := d.Read("s/run-1", size-4369, 4369)
	done(t, e)
	is(t, "the row", got, "\x00\x00\x00\x00\x00\x00\x01\x2c"+"\x00\x02"+"\x00\xff"+"\x00\x00\x10\x00"+"\xff\x01"+text(255)+text(4096))
	got, e = d.Read("s/run-1", 299*16, 16)
	done(t, e)
	is(t, "the row", got, "\x00\x00\x00\x00\x00\x00\x01\x2b"+"\x00\x00\x00\x00\x00\x00\x00\x00")
}

func TestAFlushThatFails(t *testing.T) {
	for _, c := range []struct {
		what  string
		spoil func(d *disk.Disk)
		want  api.Errno
		lies  string
	}{
		{"no Create", func(d *disk.Disk) { d.Arm(0) }, api.ErrDown, "run-1:100"},
		{"no Append", func(d *disk.Disk) { d.Arm(1) }, api.ErrDown, "run-1:100 run-2:0"},
		{"a full disk", func(d *disk.Disk) { d.Create("f"); d.Append("f", text(801)) }, api.ErrFull, "run-1:100 run-2:0"},
		{"a file is there", func(d *disk.Disk) { d.Create("s/run-2") }, api.ErrThere, "run-1:100 run-2:0"},
		{"a directory is there", func(d *disk.Disk) { d.Mkdir("s/run-2") }, api.ErrThere, "run-1:100 run-2:0"},
		{"it is not down, but full to the last byte", func(d *disk.Disk) { d.Create("f"); d.Append("f", text(800)) }, api.OK, "run-1:100 run-2:100"},
	} {
		for _, finish := range []bool{false, true} {
			d, s := made(t, 1000, 100, 2)
			heavies(t, s, 50, 50, 50, 50)
			c.spoil(d)
			got := api.OK
			if finish {
				got = s.Finish()
			} else {
				got = heavy(s, 50)
			}
			is(t, c.what, got, c.want)
			is(t, c.what+": the directory", lies(d), c.lies)
			is(t, c.what+": Peak", s.Peak(), 100)
			if c.want == api.OK {
				continue
			}
			runs := 2
			if strings.HasPrefix(c.what, "no Create") || c.want == api.ErrThere {
				runs = 1
			}
			is(t, c.what+": Runs", s.Runs(), runs)
			refuses(t, c.what, s)
		}
	}
}

func TestAddWithoutAFlushIsNoAct(t *testing.T) {
	d, s := made(t, 1000, 100, 2)
	down(t, d)
	heavies(t, s, 50, 50)
	is(t, "Peak", s.Peak(), 100)
	is(t, "a flush", heavy(s, 18), api.ErrDown)
	refuses(t, "a broken one", s)
}

func TestADirectoryThatIsTooDeep(t *testing.T) {
	d := fresh(t, 1000)
	parents(t, d)
	s := on(t, d, depths, 100, 2)
	heavies(t, s, 50, 50)
	is(t, "a run's path is none", heavy(s, 50), api.ErrPath)
	is(t, "Runs", s.Runs(), 0)
	refuses(t, "a broken one", s)
	is(t, "Close", s.Close(), api.OK)
	s = on(t, d, depths, 100, 2)
	is(t, "Finish", s.Finish(), api.OK)
}

// What is held is a row's texts alone, not the long ones that they may be pieces of.
func TestTextsAreCopied(t *testing.T) {
	_, s := made(t, 1000, 100, 2)
	long := strings.Repeat("abc", 1000)
	done(t, s.Add(long[:2], long[2:4], long[4:6]))
	row := s.held[0]
	for _, c := range [][2]string{{row.Hash, long}, {row.Key, long[2:]}, {row.Value, long[4:]}} {
		if unsafe.StringData(c[0]) == unsafe.StringData(c[1]) {
			t.Errorf("%q is a piece of what was handed in", c[0])
		}
	}
}

// P7.3

func TestFinishWithFewRuns(t *testing.T) {
	for fan := 2; fan <= 16; fan++ {
		for flushed := range fan + 1 {
			d, s := made(t, 100000, 20*fan, fan)
			for range flushed * fan {
				heavies(t, s, 20)
			}
			acts := d.Acts()
			is(t, "Finish", s.Finish(), api.OK)
			is(t, "Runs", s.Runs(), flushed)
			is(t, "acts", d.Acts()-acts, 2*min(flushed, 1))
			done(t, s.Close())
		}
		d, s := made(t, 100000, 20*fan, fan)
		rows := fan*fan + 1
		for range rows {
			heavies(t, s, 20)
		}
		acts := d.Acts()
		is(t, "Finish with one run more", s.Finish(), api.OK)
		is(t, "Runs", s.Runs(), 2)
		is(t, "acts", d.Acts()-acts, 2+1+fan*fan+fan)
		is(t, "rows", len(slices.Collect(s.All())), rows)
	}
}

func TestAMergeOfWhatWasMerged(t *testing.T) {
	d, s := made(t, 10000, 51, 3)
	rows := strings.Split("q w e r t z u i o p a s d f g h j k l y x c v b n m 1 2 3 4", " ") // three to a run
	adds(t, s, rows...)
	is(t, "Runs", s.Runs(), 9)
	acts := d.Acts()
	done(t, s.Finish())
	// 1 2 3 make 11, 4 5 6 make 12, 7 8 9 make 13, 10 11 12 make 14
	is(t, "the directory", lies(d), "run-13:153 run-14:357")
	is(t, "acts", d.Acts()-acts, 2+3*(1+9+3)+1+21+3)
	first, _ := d.Read("s/run-14", 0, 34)
	is(t, "the first rows of the last run", first, bytesOf(row("2", "", "", 27), row("3", "", "", 28)))
	slices.Sort(rows)
	givesHashes(t, s, rows...)
}

func TestFinishBreaksOffAtEachAct(t *testing.T) {
	for k, want := range []struct {
		lies string
		runs int
	}{
		{"run-1:100 run-2:100", 2},
		{"run-1:100 run-2:100 run-3:0", 3},
		{"run-1:100 run-2:100 run-3:100", 3},
		{"run-1:100 run-2:100 run-3:100 run-4:0", 4},
		{"run-1:100 run-2:100 run-3:100 run-4:50", 4},
		{"run-1:100 run-2:100 run-3:100 run-4:100", 4},
		{"run-1:100 run-2:100 run-3:100 run-4:150", 4},
		{"run-1:100 run-2:100 run-3:100 run-4:200", 4},
		{"run-2:100 run-3:100 run-4:200", 3},
		{"run-3:100 run-4:200", 2},
	} {
		d, s := made(t, 10000, 100, 2)
		heavies(t, s, 50, 50, 50, 50, 50, 50)
		done(t, d.Arm(k))
		e := s.Finish()
		is(t, "the directory", lies(d), want.lies)
		is(t, "Runs", s.Runs(), want.runs)
		if k == 9 {
			is(t, "Finish", e, api.OK)
			continue
		}
		is(t, "Finish", e, api.ErrDown)
		refuses(t, "a broken one", s)
	}
}

func TestFinishOnAFullDisk(t *testing.T) {
	for capacity, want := range map[int]struct {
		e    api.Errno
		lies string
	}{
		299: {api.ErrFull, "run-1:100 run-2:100 run-3:0"},
		300: {api.ErrFull, "run-1:100 run-2:100 run-3:100 run-4:0"},
		349: {api.ErrFull, "run-1:100 run-2:100 run-3:100 run-4:0"},
		350: {api.ErrFull, "run-1:100 run-2:100 run-3:100 run-4:50"},
		400: {api.ErrFull, "run-1:100 run-2:100 run-3:100 run-4:100"},
		499: {api.ErrFull, "run-1:100 run-2:100 run-3:100 run-4:150"},
		500: {api.OK, "run-3:100 run-4:200"},
	} {
		d, s := made(t, capacity, 100, 2)
		heavies(t, s, 50, 50, 50, 50, 50, 50)
		is(t, "Finish", s.Finish(), want.e)
		is(t, "the directory", lies(d), want.lies)
		is(t, "Runs", s.Runs(), strings.Count(want.lies, ":"))
		if want.e != api.OK {
			refuses(t, "a broken one", s)
		}
		is(t, "Close", s.Close(), api.OK)
		is(t, "what is left", len(d.Dump()), 0)
	}
}

func TestAMergeWhoseFileIsThere(t *testing.T) {
	d, s := made(t, 10000, 100, 2)
	done(t, d.Create("s/run-4"))
	heavies(t, s, 50, 50, 50, 50, 50, 50)
	is(t, "Finish", s.Finish(), api.ErrThere)
	is(t, "the directory", lies(d), "run-1:100 run-2:100 run-3:100 run-4:0")
	is(t, "Runs", s.Runs(), 3)
	is(t, "Peak", s.Peak(), 100)
	refuses(t, "a broken one", s)
	is(t, "Close", s.Close(), api.ErrFilled)
	is(t, "the directory", lies(d), "run-4:0")
}

func TestFinishWithoutAnActOnADiskThatIsDown(t *testing.T) {
	d, s := made(t, 1000, 100, 2)
	down(t, d)
	is(t, "Finish", s.Finish(), api.OK)
	is(t, "Finish again", s.Finish(), api.ErrState)
	nextIs(t, s, api.Row{}, api.ErrDown)
	refuses(t, "a broken one", s)
}
