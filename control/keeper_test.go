package control

import (
	"fmt"
	"testing"

	"granary/api"
	"granary/builder"
	"granary/disk"
	"granary/engine"
)

// keeper is a node that carries out orders as chapter 12 says (P12.6): the pointer, and the versions that it has.
type keeper struct {
	api.Pointer
	have   map[int]int
	writes int // pointers that were written
}

func newKeeper(cur int, versions ...int) *keeper {
	x := &keeper{Pointer: api.Pointer{Cur: cur}, have: map[int]int{}}
	for _, v := range versions {
		x.have[v] = 1
	}
	return x
}

// way is below 0 for an order below the fence, 0 for the fence, above 0 for one above it.
func (x *keeper) way(epoch, seq int) int {
	if epoch != x.Epoch {
		return epoch - x.Epoch
	}
	return seq - x.Seq
}

func (x *keeper) lacks(version int) bool { return version != 0 && x.have[version] == 0 }

func (x *keeper) write(p api.Pointer, full bool) api.Errno {
	if full {
		return api.ErrFull
	}
	x.Pointer = p
	x.writes++
	return api.OK
}

// swap and rollback: if full, there is no room for another pointer.
func (x *keeper) swap(version, epoch, seq int, full bool) api.Errno {
	way := x.way(epoch, seq)
	if way == 0 && version == x.Cur {
		return api.OK
	}
	if way <= 0 {
		return api.ErrStale
	}
	if x.lacks(version) {
		return api.ErrAbsent
	}
	return x.write(api.Pointer{Cur: version, Prev: x.Cur, Epoch: epoch, Seq: seq}, full)
}

func (x *keeper) rollback(epoch, seq int, full bool) api.Errno {
	way := x.way(epoch, seq)
	if way == 0 {
		return api.OK
	}
	if way < 0 {
		return api.ErrStale
	}
	to := x.Cur
	if x.Epoch == epoch {
		to = x.Prev
	}
	if x.lacks(to) {
		return api.ErrAbsent
	}
	return x.write(api.Pointer{Cur: to, Prev: to, Epoch: epoch, Seq: seq}, full)
}

func done(t *testing.T, all ...api.Errno) {
	t.Helper()
	for i, e := range all {
		if e != api.OK {
			t.Fatalf("call %d: %d", i, e)
		}
	}
}

// fetched lays a whole partial directory of a version onto a node's disk.
func fetched(t *testing.T, d *disk.Disk, c api.Cluster, version int) {
	t.Helper()
	depot, e := disk.New(1 << 20)
	done(t, e)
	_, e = builder.Build(depot, c, api.Job{Version: version, Memory: 65536, FanIn: 2}, []api.Pair{{Key: "k", Value: fmt.Sprint(version)}})
	done(t, e)
	from := fmt.Sprintf("build-%d/node-0", version)
	list, e := depot.List(from)
	done(t, e, d.Mkdir(engine.PartialDir(version)))
	for _, x := range list {
		text, e := depot.Read(disk.Path(from, x.Name), 0, mostInt)
		to := engine.PartialDir(version) + "/" + x.Name
		done(t, e, d.Create(to), d.Append(to, text))
	}
}

// The nodes of these tests answer as engines do.
func TestKeepersAreAsEngines(t *testing.T) {
	c, lot := many(1, 2, 3, 50), dice(12)
	for range 20 {
		d, e := disk.New(100000)
		done(t, e)
		x, e := engine.Open(d, c, 0)
		done(t, e)
		for v := 1; v <= 3; v++ {
			fetched(t, d, c, v)
			done(t, x.Admit(v))
		}
		k := newKeeper(0, 1, 2, 3)
		for range 200 {
			version, epoch, seq := 1+lot.roll(4), max(0, k.Epoch+lot.roll(4)-2), lot.roll(4)
			if lot.roll(2) == 0 {
				is(t, "Swap", k.swap(version, epoch, seq, false), x.Swap(version, epoch, seq))
			} else {
				is(t, "Rollback", k.rollback(epoch, seq, false), x.Rollback(epoch, seq))
			}
			s := x.State()
			is(t, "the pointer", k.Pointer, api.Pointer{Cur: s.Cur, Prev: s.Prev, Epoch: s.Epoch, Seq: s.Seq})
		}
		if t.Failed() {
			t.FailNow()
		}
	}
}
