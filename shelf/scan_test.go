package shelf

import (
	"slices"
	"testing"

	"granary/api"
	"granary/disk"
)

// P9.5

func TestScanInOrder(t *testing.T) {
	c := east()
	s, d := sample().opened(t)
	for _, part := range []int{leastInt, -1, 4, 5, mostInt} {
		scanIs(t, s, part, nil, api.ErrPart)
	}
	scanIs(t, s, 2, nil, api.ErrForeign)
	scanIs(t, s, 3, nil, api.ErrForeign)
	for _, part := range []int{0, 1} {
		want, _ := plainScan(c, 1, harvest(), part)
		scanIs(t, s, part, want, api.OK)
	}
	down(t, d)
	scanIs(t, s, -1, nil, api.ErrPart)
	scanIs(t, s, 4, nil, api.ErrPart)
	scanIs(t, s, 3, nil, api.ErrForeign)
	scanIs(t, s, 0, nil, api.ErrDown)
	scanIs(t, s, 1, nil, api.ErrDown)
	up(d)
	want, _ := plainScan(c, 1, harvest(), 1)
	scanIs(t, s, 1, want, api.OK)
	s, d = boxOf(c, 1, 7, nil).opened(t)
	scanIs(t, s, 0, nil, api.OK)
	down(t, d)
	scanIs(t, s, 0, nil, api.ErrDown)
}

// TestScanOfEdges: the last partition, and a node that holds nothing.
func TestScanOfEdges(t *testing.T) {
	c := round(2, 64, 1, 1, 1)
	s, _ := boxOf(c, 1, 7, numbered(200)).opened(t)
	want, _ := plainScan(c, 1, numbered(200), 63)
	if len(want) == 0 {
		t.Fatal("no pair in the last partition")
	}
	scanIs(t, s, 63, want, api.OK)
	scanIs(t, s, 62, nil, api.ErrForeign)
	scanIs(t, s, 64, nil, api.ErrPart)
	s, _ = boxOf(settings("bare", 1, 1, 1, holding(), holding(0)), 0, 7, nil).opened(t)
	scanIs(t, s, 0, nil, api.ErrForeign)
	scanIs(t, s, 1, nil, api.ErrPart)
	scanIs(t, s, -1, nil, api.ErrPart)
}

// TestScanOrder: by chunk, then by hash, then by key; each of them parts two pairs here that the next one would turn.
func TestScanOrder(t *testing.T) {
	c := settings("s", 1, 1, 3, holding(0))
	s, _ := boxOf(c, 0, 1, numbered(400)).opened(t)
	list, e := s.Scan(0)
	done(t, e)
	is(t, "pairs", len(list), 400)
	var byHash, byKey, ties int
	for i := range len(list) - 1 {
		a, b := plainLocate(c, list[i].Key), plainLocate(c, list[i+1].Key)
		switch {
		case a.Chunk > b.Chunk, a.Chunk == b.Chunk && a.Hash > b.Hash, a == b && list[i].Key >= list[i+1].Key:
			t.Errorf("%q stands ahead of %q", list[i].Key, list[i+1].Key)
		case a.Chunk < b.Chunk && a.Hash > b.Hash:
			byHash++
		case a.Hash < b.Hash && list[i].Key > list[i+1].Key:
			byKey++
		case a == b:
			ties++
		}
	}
	if byHash == 0 || byKey == 0 || ties == 0 {
		t.Errorf("the pairs show too little: %d, %d, %d", byHash, byKey, ties)
	}
}

func TestScanIsNewMemory(t *testing.T) {
	s, _ := sample().opened(t)
	want, _ := plainScan(east(), 1, harvest(), 0)
	first, _ := s.Scan(0)
	second, _ := s.Scan(0)
	for i := range first[:cap(first)] {
		first[:cap(first)][i] = api.Pair{Key: "spoilt"}
	}
	_ = append(first, api.Pair{Key: "more"})
	if !slices.Equal(second, want) {
		t.Errorf("another answer is %v", second)
	}
	for _, p := range second[len(second):cap(second)] {
		is(t, "the spare room", p, api.Pair{})
	}
	scanIs(t, s, 0, want, api.OK)
	allIs(t, s, plainAll(east(), 1, harvest()))
}

// P9.6

// chunkOf is the place of a pair's chunk among a node's chunks, from 1 on.
func chunkOf(c api.Cluster, node int, key string) int {
	at := plainLocate(c, key)
	return 1 + slices.IndexFunc(plainSlots(c, node), func(x plainSlot) bool { return x.part == at.Part && x.chunk == at.Chunk })
}

// rich is a cluster and a dataset with many chunks, of which some are empty.
func rich() (api.Cluster, []api.Pair) {
	return round(2, 12, 2, 1, 3), numbered(60)
}

// TestBreakOff: who breaks off within a chunk has had the two files of that one read, and of those ahead of it.
func TestBreakOff(t *testing.T) {
	c, list := rich()
	for node := range 2 {
		want := plainAll(c, node, list)
		s, d := boxOf(c, node, 1, list).opened(t)
		for i, last := range want {
			var got []api.Pair
			n := reads(d, func() {
				for p := range s.All() {
					got = append(got, p)
					if p == last {
						break
					}
				}
			})
			is(t, "Reads up to "+last.Key, n, 2*chunkOf(c, node, last.Key))
			if !slices.Equal(got, want[:i+1]) {
				t.Errorf("up to %q: %v", last.Key, got)
			}
		}
		is(t, "Reads of all", reads(d, func() { drain(s) }), 2*len(plainSlots(c, node)))
		is(t, "Reads of the answer alone", reads(d, func() { s.All() }), 0)
	}
}

// TestReadsAsItComes: at each pair just the files up to its own chunk have been read, each once.
func TestReadsAsItComes(t *testing.T) {
	c, list := rich()
	s, d := boxOf(c, 0, 1, list).opened(t)
	before := d.Reads()
	for p := range s.All() {
		is(t, "Reads at "+p.Key, d.Reads()-before, 2*chunkOf(c, 0, p.Key))
	}
}

// TestAllOrder: by rising partition as a number, not as a name.
func TestAllOrder(t *testing.T) {
	c := round(1, 24, 1, 1, 2)
	s, _ := boxOf(c, 0, 1, numbered(200)).opened(t)
	last := -1
	for p := range s.All() {
		part := plainLocate(c, p.Key).Part
		if part < last {
			t.Fatalf("partition %d behind %d", part, last)
		}
		last = part
	}
	is(t, "the last one", last, 23)
	var scans []api.Pair
	for part := range 24 {
		more, _ := s.Scan(part)
		scans = append(scans, more...)
	}
	allIs(t, s, scans)
}

func TestAllAgain(t *testing.T) {
	c, list := rich()
	want := plainAll(c, 1, list)
	s, d := boxOf(c, 1, 1, list).opened(t)
	all := s.All()
	for n := range all { // broken off at once
		is(t, "the first", n, want[0])
		break
	}
	for range 3 {
		before := d.Reads()
		if got := slices.Collect(all); !slices.Equal(got, want) {
			t.Errorf("ranged over again: %v", got)
		}
		is(t, "Reads", d.Reads()-before, 2*len(plainSlots(c, 1)))
	}
}

// TestWithinOneAnother: two ranges at a time, over one answer and over two.
func TestWithinOneAnother(t *testing.T) {
	s, _ := sample().opened(t)
	want := plainAll(east(), 1, harvest())
	all := s.All()
	i := 0
	for p := range all {
		is(t, "the outer one", p, want[i])
		i++
		j := 0
		for q := range all {
			is(t, "the inner one", q, want[j])
			j++
			if j == i {
				break
			}
		}
		is(t, "pairs within", j, i)
		allIs(t, s, want)
		getIs(t, s, p.Key, p.Value, true, api.OK)
	}
	is(t, "pairs", i, len(want))
}

// TestDownWithin: pairs of a chunk that was read come still; at the next chunk it ends.
func TestDownWithin(t *testing.T) {
	c, list := rich()
	want := plainAll(c, 0, list)
	s, d := boxOf(c, 0, 1, list).opened(t)
	all := s.All()
	for i, at := range want {
		var got []api.Pair
		before := d.Reads()
		for p := range all {
			got = append(got, p)
			if p == at {
				down(t, d)
			}
		}
		upto := slices.IndexFunc(want, func(p api.Pair) bool { return chunkOf(c, 0, p.Key) > chunkOf(c, 0, at.Key) })
		if upto < 0 {
			upto = len(want)
		}
		if !slices.Equal(got, want[:upto]) {
			t.Errorf("down at pair %d: %d pairs, want %d", i, len(got), upto)
		}
		is(t, "Reads", d.Reads()-before, 2*chunkOf(c, 0, at.Key))
		before = d.Reads()
		for p := range all {
			t.Errorf("of a disk that is down: %v", p)
		}
		is(t, "Reads of a disk that is down", d.Reads()-before, 0)
		up(d)
	}
	allIs(t, s, want)
}

// TestNone: a shelf that is not there, and one that Open did not make.
func TestNone(t *testing.T) {
	for _, s := range []*Shelf{nil, {}} {
		is(t, "Version", s.Version(), 0)
		is(t, "Count", s.Count(), 0)
		getIs(t, s, "", "", false, api.ErrNil)
		getIs(t, s, "abc", "", false, api.ErrNil)
		scanIs(t, s, -1, nil, api.ErrNil)
		scanIs(t, s, 0, nil, api.ErrNil)
		if s.All() == nil {
			t.Error("All is a nil function")
		}
		for p := range s.All() {
			t.Errorf("All gives %v", p)
		}
	}
	if s, e := Open(&disk.Disk{}, "v", east(), 1, 7); s != nil || e != api.ErrNil {
		t.Errorf("a disk that New did not make: %d", e)
	}
}
