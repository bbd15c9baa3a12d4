package rebalance

import (
	"fmt"
	"testing"

	"granary/api"
	"granary/disk"
	"granary/fetch"
)

// Calls drawn by lot, held against the plain reading of the chapter: their answers, their acts, what is left behind a crash.

// hurt does something to a node's disk; mostly nothing.
func hurt(t *testing.T, lot *dice, d *disk.Disk) *disk.Disk {
	t.Helper()
	list := under(d, home)
	file := home + "/" + oneOf(lot, list...).Key
	text := bytesOf(t, d, file)
	switch lot.roll(16) {
	case 0:
		return nil
	case 1:
		down(t, d)
	case 2:
		done(t, d.Append(file, "x"))
	case 3:
		done(t, d.Remove(file))
	case 4:
		if text != "" {
			b := []byte(text)
			b[lot.roll(len(b))] ^= 1 << lot.roll(8)
			rewrite(t, d, file, string(b))
		}
	case 5:
		put(t, d, home+"/more", "")
	}
	return d
}

// drawnTrip is a call, mostly one that is done. Each node has the dataset that was built of, or a few have one of their own.
func drawnTrip(t *testing.T, lot *dice) trip {
	t.Helper()
	parts, width, chunks := 1+lot.roll(oneOf(lot, 1, 4, 7)), 1+lot.roll(2), 1+lot.roll(3)
	x := trip{was: drawn(lot, parts, width, chunks), version: 1, dir: home, toDir: goal}
	if lot.roll(8) == 0 {
		parts, width, chunks = 1+lot.roll(parts+1), 1+lot.roll(2), 1+lot.roll(3)
	}
	x.next = drawn(lot, parts, width, chunks)
	x.node = lot.roll(len(x.next.Nodes))
	count := lot.roll(20)
	for node := range x.was.Nodes {
		d := fresh(t)
		lay(t, d, home, filesOf(t, x.was, node, 1, data(count, oneOf(lot, "", "", fmt.Sprint(node)))))
		x.from = append(x.from, hurt(t, lot, d))
	}
	switch lot.roll(20) {
	case 0:
		x.version = lot.roll(3)
	case 1:
		x.node = lot.roll(20) - 2
	case 2:
		x.from = x.from[:lot.roll(len(x.from))]
	case 3:
		x.dir = oneOf(lot, "", "store", "no")
	case 4:
		x.toDir = oneOf(lot, "", "store", "x", "no/x", "file/x", "A", "store/old", "store/old/x")
	}
	return x
}

func TestByLot(t *testing.T) {
	lot := dice(2300)
	told := map[api.Errno]int{}
	for i := range 1200 {
		x := drawnTrip(t, &lot)
		ready := func(room int) *disk.Disk {
			d := roomed(t, len("old")+len("bytes")+room)
			put(t, d, "store/old", "old")
			put(t, d, "file", "bytes")
			safe(t, d)
			return d
		}
		x.to = ready(1 << 20)
		need, _, _ := x.plain(t)
		room := oneOf(&lot, 1<<20, 1<<20, need.Bytes, max(need.Bytes-1, 0), lot.roll(need.Bytes+1))
		x.to = ready(room)
		want, files, wrong := x.plain(t)
		var all []deed
		if wrong == api.OK {
			all = deedsOf(x.toDir, parentOf(x.toDir), files)
		}
		twin, k := ready(room), oneOf(&lot, -1, lot.roll(len(all)+3))
		done(t, x.to.Arm(k), twin.Arm(k))
		for _, s := range all {
			if wrong = s.on(twin); wrong != api.OK {
				want = api.Carried{}
				fetch.Sweep(twin, x.toDir)
				break
			}
		}
		got, e := Carry(x.was, x.next, x.version, x.node, x.from, x.dir, x.to, x.toDir)
		what := fmt.Sprintf("lot %d: %+v", i, x)
		if got != want || e != wrong || state(x.to) != state(twin) {
			t.Fatalf("%s: %+v, %d, want %+v, %d; %s, want %s", what, got, e, want, wrong, state(x.to), state(twin))
		}
		keep, torn := lot.roll(x.to.Pending()+1), lot.roll(120)
		x.to.Crash(keep, torn)
		twin.Crash(keep, torn)
		is(t, what+": behind a crash", state(x.to), state(twin))
		told[e]++
	}
	for e, least := range map[api.Errno]int{api.OK: 200, api.ErrMissing: 50, api.ErrOther: 20, api.ErrRoom: 20, api.ErrDown: 50, api.ErrVersion: 1, api.ErrNode: 1, api.ErrArg: 1, api.ErrThere: 1, api.ErrNone: 1, api.ErrPath: 1, api.ErrKind: 1} {
		if told[e] < least {
			t.Errorf("the error %d: %d times, want %d and more", e, told[e], least)
		}
	}
}

// parentOf is the path ahead of a path's last name.
func parentOf(path string) string {
	for i := len(path) - 1; i >= 0; i-- {
		if path[i] == '/' {
			return path[:i]
		}
	}
	return ""
}
