package sorter

import (
	"slices"
	"testing"

	"granary/api"
)

// P7.4

// finishedOf is a finished sorter of rows that have a hash alone, in runs of three.
func finishedOf(t *testing.T, hashes ...string) *Sorter {
	t.Helper()
	_, s := made(t, 10000, 51, 3)
	adds(t, s, hashes...)
	done(t, s.Finish())
	return s
}

func TestTheOrder(t *testing.T) {
	want := []api.Row{
		row("", "", "9", 12), row("", "z", "", 3),
		row("\x00", "", "", 4), row("\x00", "\x00", "", 11),
		row("a", "", "", 9), row("a", "b", "z", 1), row("a", "b", "a", 5), row("a", "b", "z", 7), row("a", "ba", "", 2), row("a", "c", "", 0),
		row("ab", "", "", 10), row("b", "", "", 6), row("\x80", "", "", 13), row("\xff", "", "", 8),
	}
	for _, memory := range []int{40, 60, 100, 1000} {
		_, s := made(t, 10000, memory, 2)
		for seq := range want {
			at := slices.IndexFunc(want, func(r api.Row) bool { return r.Seq == seq })
			done(t, s.Add(want[at].Hash, want[at].Key, want[at].Value))
		}
		done(t, s.Finish())
		for _, row := range want {
			nextIs(t, s, row, api.OK)
		}
		nextIs(t, s, api.Row{}, api.ErrEnd)
	}
}

func TestRowsInManyOrders(t *testing.T) {
	const rows = 700
	hashes := make([]string, rows)
	for i := range hashes {
		hashes[i] = string([]byte{byte(i >> 8), byte(i)})
	}
	lot := dice(1)
	for name, mix := range map[string]func(list []string){
		"sorted":  func([]string) {},
		"reverse": slices.Reverse[[]string],
		"mixed": func(list []string) {
			for i := range list {
				j := lot.roll(i + 1)
				list[i], list[j] = list[j], list[i]
			}
		},
		"turned": func(list []string) { copy(list, append(slices.Clone(list[300:]), list[:300]...)) },
	} {
		for _, fan := range []int{2, 3, 7, 16} {
			for _, memory := range []int{18 * fan, 18*fan + 17, 100 * fan, 18 * rows} {
				_, s := made(t, 1<<20, memory, fan)
				list := slices.Clone(hashes)
				mix(list)
				adds(t, s, list...)
				done(t, s.Finish())
				seqs := 0
				for _, h := range hashes {
					row, e := s.Next()
					if e != api.OK || row.Hash != h || list[row.Seq] != h {
						t.Fatalf("%s, %d: %+v, %d, want %q", name, fan, row, e, h)
					}
					seqs += row.Seq
				}
				nextIs(t, s, api.Row{}, api.ErrEnd)
				is(t, "the Seqs together", seqs, rows*(rows-1)/2)
				if s.Peak() > memory {
					t.Errorf("Peak %d is above %d", s.Peak(), memory)
				}
			}
		}
	}
}

func TestRowsThatAreAlike(t *testing.T) {
	for _, fan := range []int{2, 4} {
		_, s := made(t, 1<<20, 50*fan, fan)
		for range 100 {
			done(t, s.Add("h", "k", "v"))
		}
		done(t, s.Finish())
		for seq := range 100 {
			nextIs(t, s, api.Row{Hash: "h", Key: "k", Value: "v", Seq: seq}, api.OK)
		}
		nextIs(t, s, api.Row{}, api.ErrEnd)
	}
}

func TestNextMakesNoAct(t *testing.T) {
	d, s := made(t, 10000, 51, 3)
	adds(t, s, "c", "b", "d", "a")
	nextIs(t, s, api.Row{}, api.ErrState)
	done(t, s.Finish())
	acts := d.Acts()
	done(t, d.Arm(0)) // an act would take it down
	nextIs(t, s, api.Row{Hash: "a", Seq: 3}, api.OK)
	givesHashes(t, s, "b", "c", "d")
	nextIs(t, s, api.Row{}, api.ErrEnd)
	is(t, "acts", d.Acts(), acts)
	is(t, "Down", d.Down(), false)
}

func TestNextOnADiskThatIsDown(t *testing.T) {
	for given := range 4 {
		d, s := made(t, 10000, 51, 3)
		adds(t, s, "c", "b", "a")
		done(t, s.Finish())
		for range given {
			_, e := s.Next()
			done(t, e)
		}
		if given == 3 {
			nextIs(t, s, api.Row{}, api.ErrEnd)
		}
		down(t, d)
		nextIs(t, s, api.Row{}, api.ErrDown)
		refuses(t, "a broken one", s)
		d.Crash(mostInt, 0)
		refuses(t, "it stays broken", s)
	}
}

func TestNextOfASorterThatIsNotFinished(t *testing.T) {
	d, s := made(t, 10000, 51, 3)
	adds(t, s, "a")
	down(t, d)
	nextIs(t, s, api.Row{}, api.ErrState) // ahead of ErrDown
	adds(t, s, "b")                       // and it is not broken by that
	for row := range s.All() {
		t.Errorf("All has %+v", row)
	}
	adds(t, s, "c")
	is(t, "Finish", s.Finish(), api.ErrDown)
}

func TestAllThatWasAskedForEarly(t *testing.T) {
	_, s := made(t, 10000, 51, 3)
	all := s.All()
	adds(t, s, "b")
	for row := range all {
		t.Errorf("ahead of Finish it has %+v", row)
	}
	adds(t, s, "c", "d", "a")
	done(t, s.Finish())
	nextIs(t, s, api.Row{Hash: "a", Seq: 3}, api.OK)
	var got []string
	for row := range all {
		got = append(got, row.Hash)
	}
	if !slices.Equal(got, []string{"b", "c", "d"}) {
		t.Errorf("behind Finish it has %q", got)
	}
	for row := range all {
		t.Errorf("ranged over again it has %+v", row)
	}
	done(t, s.Close())
	for row := range all {
		t.Errorf("behind Close it has %+v", row)
	}
}

func TestAllThatIsStoppedEarly(t *testing.T) {
	s := finishedOf(t, "e", "d", "c", "b", "a")
	all := s.All()
	for _, want := range []string{"a", "b"} { // one iterator, ranged over twice
		for row := range all {
			is(t, "the row", row.Hash, want)
			break
		}
	}
	for row := range s.All() {
		is(t, "another iterator's row", row.Hash, "c")
		break
	}
	nextIs(t, s, api.Row{Hash: "d", Seq: 1}, api.OK)
	var got []string
	for row := range all {
		got = append(got, row.Hash)
	}
	if !slices.Equal(got, []string{"e"}) {
		t.Errorf("the rest is %q", got)
	}
}

func TestAllStopsForGood(t *testing.T) {
	s := finishedOf(t, "c", "b", "a")
	calls := 0
	s.All()(func(api.Row) bool {
		calls++
		return false
	})
	is(t, "calls", calls, 1)
	givesHashes(t, s, "b", "c")
}

func TestCallsWithinALoop(t *testing.T) {
	s := finishedOf(t, "f", "e", "d", "c", "b", "a")
	var got []string
	for row := range s.All() {
		got = append(got, row.Hash)
		switch row.Hash {
		case "a":
			nextIs(t, s, api.Row{Hash: "b", Seq: 4}, api.OK)
		case "c":
			for inner := range s.All() {
				is(t, "the inner row", inner.Hash, "d")
				break
			}
		case "e":
			is(t, "Close", s.Close(), api.OK)
		}
	}
	if !slices.Equal(got, []string{"a", "c", "e"}) {
		t.Errorf("the loop had %q", got)
	}
}

func TestADiskThatGoesDownWithinALoop(t *testing.T) {
	d, s := made(t, 10000, 51, 3)
	adds(t, s, "c", "b", "a")
	done(t, s.Finish())
	rows := 0
	for range s.All() {
		rows++
		if rows == 2 {
			down(t, d)
		}
	}
	is(t, "rows", rows, 2)
	refuses(t, "a broken one", s)
}

func TestNoRows(t *testing.T) {
	d, s := made(t, 0, 1, 2)
	is(t, "Finish", s.Finish(), api.OK)
	givesHashes(t, s)
	is(t, "acts", d.Acts(), 1)
	is(t, "Runs", s.Runs(), 0)
	is(t, "Peak", s.Peak(), 0)
	is(t, "Close", s.Close(), api.OK)
}

func TestOneRow(t *testing.T) {
	d, s := made(t, 16, 32, 2)
	done(t, s.Add("", "", ""), s.Finish())
	is(t, "the directory", lies(d), "run-1:16")
	nextIs(t, s, api.Row{}, api.OK)
	nextIs(t, s, api.Row{}, api.ErrEnd)
}

// P7.5

func TestClose(t *testing.T) {
	for name, c := range map[string]struct {
		before func(s *Sorter)
		runs   int
	}{
		"new":      {func(s *Sorter) {}, 0},
		"holding":  {func(s *Sorter) { heavy(s, 50) }, 0},
		"flushed":  {func(s *Sorter) { heavies(t, s, 50, 50, 50, 50, 50) }, 2},
		"finished": {func(s *Sorter) { heavies(t, s, 50, 50, 50, 50, 50); s.Finish() }, 2},
		"given":    {func(s *Sorter) { heavies(t, s, 50, 50); s.Finish(); s.Next(); s.Next(); s.Next() }, 1},
		"broken":   {func(s *Sorter) { heavies(t, s, 50, 50); s.disk.Create("s/run-1"); s.Finish(); s.disk.Remove("s/run-1") }, 0},
	} {
		d, s := made(t, 10000, 100, 2)
		c.before(s)
		acts, peak := d.Acts(), s.Peak()
		is(t, name+": Runs ahead", s.Runs(), c.runs)
		is(t, name+": Close", s.Close(), api.OK)
		is(t, name+": acts", d.Acts()-acts, c.runs+1)
		is(t, name+": what is left", len(d.Dump()), 0)
		is(t, name+": Runs", s.Runs(), 0)
		is(t, name+": Peak", s.Peak(), peak)
		for range 2 {
			refuses(t, name, s)
			is(t, name+": Close again", s.Close(), api.ErrState)
		}
		down(t, d)
		is(t, name+": Close of a closed one whose disk is down", s.Close(), api.ErrState)
		nextIs(t, s, api.Row{}, api.ErrState)
	}
}

func TestCloseLeavesWhatIsInNewHands(t *testing.T) {
	d, s := made(t, 10000, 100, 2)
	done(t, s.Close())
	other := on(t, d, "s", 100, 2)
	heavies(t, other, 50, 50, 50)
	is(t, "Close", s.Close(), api.ErrState)
	is(t, "the directory", lies(d), "run-1:100")
	done(t, other.Finish())
	is(t, "Runs", other.Runs(), 2)
}

func TestCloseBreaksOffAtEachAct(t *testing.T) {
	for k, want := range []string{"run-1:99 run-2:99 run-3:33", "run-2:99 run-3:33", "run-3:33", ""} {
		d, s := made(t, 10000, 99, 3)
		heavies(t, s, 33, 33, 33, 33, 33, 33, 33)
		done(t, s.Finish(), d.Arm(k))
		for range 2 {
			is(t, "Close", s.Close(), api.ErrDown)
			is(t, "the directory", lies(d), want)
			is(t, "Runs", s.Runs(), 3-k)
			refuses(t, "a broken one", s)
		}
		_, e := d.Kind("s")
		is(t, "the directory is there", e, api.ErrDown)
		d.Crash(mostInt, 0)
		is(t, "Close again", s.Close(), api.OK)
		is(t, "what is left", len(d.Dump()), 0)
	}
}

func TestCloseMayComeAgain(t *testing.T) {
	d, s := made(t, 10000, 100, 2)
	heavies(t, s, 50, 50, 50)
	done(t, s.Finish(), d.Create("s/other"), d.Mkdir("s/run"))
	acts := d.Acts()
	for range 2 {
		is(t, "Close", s.Close(), api.ErrFilled)
		is(t, "the directory", lies(d), "other:0 run:0")
		is(t, "acts", d.Acts()-acts, 2)
		is(t, "Runs", s.Runs(), 0)
		refuses(t, "a broken one", s)
	}
	done(t, d.Remove("s/other"), d.Remove("s/run"))
	is(t, "Close again", s.Close(), api.OK)
	is(t, "what is left", len(d.Dump()), 0)
	is(t, "and again", s.Close(), api.ErrState)
}

// P7.6

func TestRuns(t *testing.T) {
	_, s := made(t, 10000, 100, 2)
	for i := range 9 {
		heavies(t, s, 50)
		is(t, "Runs", s.Runs(), i/2)
	}
	done(t, s.Finish())
	is(t, "behind Finish", s.Runs(), 2)
	for range s.All() {
		is(t, "while rows are given", s.Runs(), 2)
	}
	done(t, s.Close())
	is(t, "behind Close", s.Runs(), 0)
}

func TestPeakOfHeldRows(t *testing.T) {
	_, s := made(t, 10000, 100, 2)
	for _, c := range []struct{ weight, want int }{{30, 30}, {20, 50}, {50, 100}, {50, 100}, {18, 100}} {
		heavies(t, s, c.weight)
		is(t, "Peak", s.Peak(), c.want)
	}
}

// sized adds rows of these hashes, of one byte, and weights.
func sized(t *testing.T, s *Sorter, rows ...api.Entry) {
	t.Helper()
	for _, r := range rows {
		done(t, s.Add(r.Name, "", text(r.Size-17)))
	}
}

// lighter is rows of which at most 83 bytes are held at a time, with a memory of 100; but when b is taken it is beside d: together they weigh 96.
func lighter() []api.Entry {
	return []api.Entry{{Name: "b", Size: 49}, {Name: "a", Size: 17}, {Name: "c", Size: 17}, {Name: "d", Size: 47}, {Name: "e", Size: 17}, {Name: "f", Size: 17}}
}

func TestPeakOfRowsThatAreTaken(t *testing.T) {
	_, s := made(t, 10000, 100, 2)
	sized(t, s, lighter()...)
	is(t, "Peak of what was held", s.Peak(), 83)
	done(t, s.Finish())
	is(t, "Finish takes no row without a merge", s.Peak(), 83)
	for _, want := range []int{83, 96, 96, 96, 96, 96} {
		for range s.All() {
			break
		}
		is(t, "Peak", s.Peak(), want)
	}
	nextIs(t, s, api.Row{}, api.ErrEnd)
	is(t, "Peak", s.Peak(), 96)
}

func TestPeakOfAMerge(t *testing.T) {
	for k, want := range []int{83, 83, 83, 83, 96, 96} { // the flush of g, Create, the Append of a, of b, of c
		d, s := made(t, 10000, 100, 2)
		sized(t, s, append(lighter(), api.Entry{Name: "g", Size: 50})...)
		is(t, "Runs", s.Runs(), 2)
		is(t, "Peak of what was held", s.Peak(), 83)
		done(t, d.Arm(k))
		is(t, "Finish", s.Finish(), api.ErrDown)
		is(t, "Peak", s.Peak(), want)
	}
	for capacity, want := range map[int]int{230: 83, 231: 96, 279: 96} { // all runs have 214 bytes
		_, s := made(t, capacity, 100, 2)
		sized(t, s, append(lighter(), api.Entry{Name: "g", Size: 50})...)
		is(t, "Finish", s.Finish(), api.ErrFull)
		is(t, "Peak", s.Peak(), want)
	}
}

func TestPeakIsNeverAboveMemory(t *testing.T) {
	lot := dice(3)
	for range 200 {
		fan := 2 + lot.roll(15)
		memory := fan*16 + lot.roll(400)
		_, s := made(t, 1<<20, memory, fan)
		for range lot.roll(200) {
			e := s.Add("", text(lot.roll(3)), text(max(0, memory/fan-16-lot.roll(4))))
			if e != api.OK && e != api.ErrRow {
				t.Fatalf("Add: %d", e)
			}
			if s.Peak() > memory {
				t.Fatalf("Peak %d, memory %d", s.Peak(), memory)
			}
		}
		done(t, s.Finish())
		for range s.All() {
			if s.Peak() > memory {
				t.Fatalf("Peak %d, memory %d", s.Peak(), memory)
			}
		}
	}
}

// P7.7

func TestRoom(t *testing.T) {
	for _, fan := range []int{2, 3, 4} {
		for k := 0; ; k++ { // the disk is looked at behind each act of a life
			d, s := made(t, 1<<20, 40*fan, fan)
			done(t, d.Arm(k))
			weights := 0
			for i := range 12 * fan {
				weight := 20 + 7*i%20
				if heavy(s, weight) == api.OK {
					weights += weight
				}
			}
			e := s.Finish()
			if d.Used() > 2*weights {
				t.Errorf("fan %d, act %d: the runs have %d bytes, the rows %d", fan, k, d.Used(), weights)
			}
			if e == api.OK {
				is(t, "behind Finish", d.Used(), weights)
				break
			}
		}
	}
}

// P7.8

func TestOtherThingsInTheDirectory(t *testing.T) {
	d, s := made(t, 10000, 100, 2)
	done(t, d.Create("s/run-0"), d.Append("s/run-0", "x"), d.Create("s/run-5"), d.Create("s/run-01"), d.Mkdir("s/run-"))
	heavies(t, s, 50, 50, 50, 50, 50, 50)
	is(t, "Finish", s.Finish(), api.OK)
	is(t, "the directory", lies(d), "run-:0 run-0:1 run-01:0 run-3:100 run-4:200 run-5:0")
	is(t, "Runs", s.Runs(), 2)
	is(t, "rows", len(slices.Collect(s.All())), 6)
	is(t, "Close", s.Close(), api.ErrFilled)
	is(t, "the directory", lies(d), "run-:0 run-0:1 run-01:0 run-5:0")
}

// Whatever happens to its files, a sorter's calls end, and none panics.
func TestFilesThatSomebodyChanges(t *testing.T) {
	lot := dice(5)
	for range 1500 {
		d, s := made(t, 5000, 60+lot.roll(60), 2)
		for range 60 {
			name := "s/run-" + string(rune('1'+lot.roll(6)))
			switch lot.roll(24) {
			case 0:
				s.Finish()
			case 1, 2, 3, 4:
				s.Next()
			case 5:
				for range s.All() {
				}
			case 6:
				if lot.roll(4) == 0 {
					s.Close()
				}
			case 7:
				d.Append(name, text(lot.roll(40)))
			case 8:
				size, _ := d.Size(name)
				d.Truncate(name, lot.roll(size+1))
			case 9:
				d.Rename(name, "s/run-"+string(rune('1'+lot.roll(6))))
			case 10:
				d.Remove(name)
			case 11:
				d.Crash(lot.roll(30), lot.roll(30))
			case 12:
				d.Append(name, "\xff\xff\xff\xff\xff\xff\xff\xff\xff\xff\xff\xff\xff\xff\xff\xff")
			case 13:
				d.Append(name, bytesOf(api.Row{Value: text(lot.roll(2000)), Seq: lot.roll(9)}))
			default:
				s.Add(text(lot.roll(3)), "", text(lot.roll(20)))
			}
		}
		s.Runs()
		s.Peak()
		s.Close()
	}
}

// A run that is not whole breaks the sorter: rows of which only a part is there are never given.
func TestARunThatIsCut(t *testing.T) {
	for size := range 3 * 20 {
		d, s := made(t, 1000, 60, 2)
		for range 3 {
			done(t, s.Add("hash", "", ""))
		}
		done(t, s.Finish(), d.Truncate("s/run-1", size))
		for seq := range size / 20 {
			nextIs(t, s, api.Row{Hash: "hash", Seq: seq}, api.OK)
		}
		if size%20 == 0 {
			nextIs(t, s, api.Row{}, api.ErrEnd)
			continue
		}
		nextIs(t, s, api.Row{}, api.ErrState)
		refuses(t, "a broken one", s)
		is(t, "Close", s.Close(), api.OK)
	}
}

func TestAMergeOfARunThatIsCut(t *testing.T) {
	d, s := made(t, 1000, 100, 2)
	heavies(t, s, 50, 50, 50, 50, 50, 50)
	done(t, d.Truncate("s/run-2", 99))
	is(t, "Finish", s.Finish(), api.ErrState)
	is(t, "the directory", lies(d), "run-1:100 run-2:99 run-3:100 run-4:150")
	refuses(t, "a broken one", s)
	is(t, "Close", s.Close(), api.OK)
}

func TestARunThatSomebodyTakesAway(t *testing.T) {
	d, s := made(t, 1000, 100, 2)
	heavies(t, s, 50, 50, 50, 50)
	done(t, s.Finish(), d.Remove("s/run-1"))
	nextIs(t, s, api.Row{}, api.ErrNone)
	refuses(t, "a broken one", s)
	is(t, "Close", s.Close(), api.ErrNone)
	is(t, "the directory", lies(d), "run-2:100")
	done(t, d.Create("s/run-1"))
	is(t, "Close again", s.Close(), api.OK)
}
