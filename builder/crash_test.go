package builder

import (
	"fmt"
	"slices"
	"strings"
	"testing"

	"granary/api"
	"granary/disk"
)

// aged is a depot in which a version was built, one was dropped, and others keep something; all is safe.
func aged(t *testing.T) *disk.Disk {
	t.Helper()
	d := fresh(t, 1<<20)
	builds(t, d, single(), easy(1), pairs("old=x", "older=y"))
	builds(t, d, single(), easy(2), nil)
	done(t, Drop(d, 2))
	put(t, d, "other/part-3/f", "stays")
	return d
}

// apart is all of a depot but a version and its part.
func apart(d *disk.Disk, version int) []api.Stored {
	return slices.DeleteFunc(d.Dump(), func(x api.Stored) bool {
		top, _, _ := strings.Cut(x.Path, "/")
		return top == fmt.Sprint("build-", version) || top == fmt.Sprint("part-", version)
	})
}

// crashes lets a call be broken off behind any number of acts, and a crash come behind it with any number of the pending changes surviving, some of them in part. Then it asks.
func crashes(t *testing.T, ready func() *disk.Disk, call func(*disk.Disk), ask func(what string, d *disk.Disk)) {
	t.Helper()
	whole := ready()
	before := whole.Acts()
	call(whole)
	for k := range whole.Acts() - before + 1 {
		for keep := 0; ; keep++ {
			d := ready()
			done(t, d.Arm(k))
			call(d)
			pending := d.Pending()
			d.Crash(keep, keep%4)
			ask(fmt.Sprintf("%d acts, then %d changes of %d", k, keep, pending), d)
			if keep >= pending {
				break
			}
		}
	}
}

// P8.6

func TestAllOrNothing(t *testing.T) {
	list := pairs("abc=grain", "oat=1", "abc=chaff", "rye=22")
	j := job(3, api.KeepLast, 60, 2)
	ready := func() *disk.Disk { return aged(t) }
	others := apart(aged(t), 3)
	whole := 0
	crashes(t, ready, func(d *disk.Disk) { Build(d, single(), j, list) }, func(what string, d *disk.Disk) {
		same(t, what+": what was there", apart(d, 3), others)
		built := len(under(d, "build-3")) > 0
		if built {
			whole++
			versionIs(t, what, d, single(), j, list)
			versionsAre(t, d, 1, 3)
			is(t, what+": a part beside it", len(under(d, "part-3")), 0)
			refuses(t, what, d, single(), j, list, api.ErrBuilt)
			return
		}
		versionsAre(t, d, 1)
		if d.Acts()%2 == 0 { // the one way and the other
			is(t, what+": Clean", Clean(d), api.OK)
			same(t, what+": behind Clean", d.Dump(), others)
		}
		builds(t, d, single(), j, list)
		same(t, what+": beside the new build", apart(d, 3), others)
		versionIs(t, what, d, single(), j, list)
	})
	if whole == 0 {
		t.Error("no crash left a version that was built")
	}
}

// TestAllOrNothingOfMany is the same of a cluster of three nodes, with some of the crashes.
func TestAllOrNothingOfMany(t *testing.T) {
	lot := dice(6)
	list := numbered(12)
	j := job(3, api.KeepLast, 60, 2)
	for k := range 210 {
		d := aged(t)
		others := apart(d, 3)
		done(t, d.Arm(k))
		Build(d, east(), j, list)
		d.Crash(lot.roll(d.Pending()+1), lot.roll(30))
		what := fmt.Sprintf("down behind %d acts", k)
		same(t, what+": what was there", apart(d, 3), others)
		if len(under(d, "build-3")) > 0 {
			versionIs(t, what, d, east(), j, list)
			continue
		}
		is(t, what+": Clean", Clean(d), api.OK)
		same(t, what+": behind Clean", d.Dump(), others)
	}
}

// P8.12: a version that is being dropped is there whole, or not at all, and then its number is used up.
func TestDropIsAllOrNothing(t *testing.T) {
	list := pairs("abc=grain", "oat=1")
	ready := func() *disk.Disk {
		d := aged(t)
		builds(t, d, single(), easy(3), list)
		put(t, d, "part-8/a", "x")
		return d
	}
	others := apart(aged(t), 3)
	crashes(t, ready, func(d *disk.Disk) { Drop(d, 3) }, func(what string, d *disk.Disk) {
		gone := len(under(d, "gone-3")) > 0
		refuses(t, what, d, single(), easy(3), nil, api.ErrBuilt)
		if len(under(d, "build-3")) > 0 {
			versionIs(t, what, d, single(), easy(3), list)
			is(t, what+": Drop", Drop(d, 3), api.OK)
		} else if !gone {
			t.Errorf("%s: neither build-3 nor gone-3", what)
		}
		is(t, what+": Clean", Clean(d), api.OK)
		left := slices.DeleteFunc(apart(d, 3), func(x api.Stored) bool { return x.Path == "gone-3" })
		same(t, what+": what was there", left, others)
	})
}

// P8.11: what Clean takes away behind a crash is what it would have taken away ahead of it.
func TestCleanBrokenOff(t *testing.T) {
	ready := func() *disk.Disk {
		d := aged(t)
		put(t, d, "part-3/node-0/meta", "meta")
		put(t, d, "part-3/sort/", "")
		put(t, d, "part-12", "x")
		return d
	}
	others := aged(t).Dump()
	crashes(t, ready, func(d *disk.Disk) { Clean(d) }, func(what string, d *disk.Disk) {
		is(t, what+": Clean", Clean(d), api.OK)
		same(t, what, d.Dump(), others)
	})
}

// P8.13

func TestBuiltOnce(t *testing.T) {
	lot := dice(13)
	for range 60 {
		d := fresh(t, 20000)
		built := map[int]int{}
		for range 60 {
			version := 1 + lot.roll(4)
			switch lot.roll(8) {
			case 0, 1, 2:
				if _, e := Build(d, single(), easy(version), drawPairs(&lot)); e == api.OK {
					built[version]++
				}
			case 3:
				Drop(d, version)
			case 4:
				Clean(d)
			case 5, 6:
				d.Arm(lot.roll(40))
			default:
				d.Crash(lot.roll(d.Pending()+1), lot.roll(5))
			}
		}
		for version, times := range built {
			if times > 1 {
				t.Errorf("version %d was built %d times", version, times)
			}
		}
	}
}

func TestDroppedIsNotBuiltAgain(t *testing.T) {
	d := fresh(t, 100000)
	for _, v := range []int{1, 5, 999999} {
		builds(t, d, single(), easy(v), numbered(3))
		done(t, Drop(d, v))
		for range 3 {
			refuses(t, "behind Drop", d, single(), easy(v), numbered(3), api.ErrBuilt)
			done(t, Clean(d))
			d.Crash(0, 0)
			is(t, "Drop", Drop(d, v), api.ErrUnbuilt)
		}
	}
	is(t, "what is left", lies(d), "gone-1 gone-5 gone-999999")
}

// P8.7

// TestRoomIsEnough: on a depot with just the room that is needed no build is full, however it sorts.
func TestRoomIsEnough(t *testing.T) {
	lot := dice(7)
	short := func(n int) []api.Pair { // keys of a byte or two: of all pairs these have the most beside their bytes
		var list []api.Pair
		for i := range n {
			list = append(list, api.Pair{Key: strings.TrimLeft(string([]byte{byte(i >> 8), byte(i)}), "\x00") + "k"})
		}
		return list
	}
	long := settings(strings.Repeat("s", 40), 1, 16, 8, holding())
	for p := range 64 {
		long.Nodes[0].Parts = append(long.Nodes[0].Parts, p)
	}
	clusters := []api.Cluster{single(), east(), long, round(16, 64, 8, 16, 1), round(16, 16, 16, 16, 2), round(2, 2, 2, 16, 16)}
	for range 6 {
		clusters = append(clusters, drawCluster(&lot))
	}
	for _, c := range clusters {
		for _, list := range [][]api.Pair{nil, pairs("k"), short(512), numbered(512), filled(32768), slices.Repeat(pairs("k=v"), 512), drawPairs(&lot)} {
			heaviest := 0
			for _, p := range list {
				heaviest = max(heaviest, 18+c.Width+len(p.Key)+len(p.Value))
			}
			for _, fan := range []int{2, 3, 16} {
				j := job(999999, api.KeepLast, max(1, heaviest*fan), fan)
				need, e := Need(c, j, list)
				done(t, e)
				if b := builds(t, fresh(t, need), c, j, list); b.Bytes > need {
					t.Errorf("%d bytes, %d were needed", b.Bytes, need)
				}
			}
		}
	}
}
