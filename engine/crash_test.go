package engine

import (
	"fmt"
	"slices"
	"testing"

	"granary/api"
	"granary/disk"
)

// P12.11: a call is broken off behind any number of acts, and anything may survive; and so is the Open that follows.

const safePath = "store/fetch-8/half" // the one safe file of a partial directory

// tale is a call, and what there is ahead of it.
type tale struct {
	what  string
	ready func() *bench
	call  func(b *bench) api.Errno
}

// tales are all calls that write, from several beginnings.
func tales(t *testing.T) []tale {
	swapped := func(retain int, loose bool) func() *bench {
		return func() *bench {
			b := at(t, small(retain), 0)
			served(t, b, 2, 3, 1, 2, 3)
			// One partial directory is safe, another is not.
			put(t, b.d, safePath, "some")
			safe(t, b.d)
			put(t, b.d, "store/fetch-8/more", "bytes")
			put(t, b.d, "store/other/thing", "of others")
			if loose {
				b.fetched(t, 5)
			}
			return b
		}
	}
	litter := func() *bench {
		b := swapped(1, false)()
		put(t, b.d, "store/latest.new", "granary lat")
		put(t, b.d, "store/trash-7/a/b", "x")
		put(t, b.d, "store/trash-10", "x")
		put(t, b.d, "store/version-6/meta", "x")
		put(t, b.d, "store/version-6/more/x", "x")
		done(t, b.d.Append("store/version-3/meta", "x"), b.d.Sync("store/version-3/meta"))
		return b
	}
	return []tale{
		{"Swap", swapped(2, false), func(b *bench) api.Errno { return b.Swap(3, 2, 1) }},
		{"Swap to the same", swapped(2, true), func(b *bench) api.Errno { return b.Swap(2, 2, 1) }},
		{"Rollback", swapped(2, false), func(b *bench) api.Errno { return b.Rollback(1, 2) }},
		{"Rollback of a later epoch", swapped(2, true), func(b *bench) api.Errno { return b.Rollback(9, 2) }},
		{"the first Swap", func() *bench { b := alone(t); b.admitted(t, 1); return b }, func(b *bench) api.Errno { return b.Swap(1, 1, 1) }},
		{"Swap without room", func() *bench { b := swapped(2, false)(); fill(t, b.d, 3); return b }, func(b *bench) api.Errno { return b.Swap(3, 2, 1) }},
		{"Admit", swapped(2, true), func(b *bench) api.Errno { return b.Admit(5) }},
		{"Admit of what is safe", func() *bench { b := swapped(2, true)(); safe(t, b.d); return b }, func(b *bench) api.Errno { return b.Admit(5) }},
		{"Prune", swapped(1, false), func(b *bench) api.Errno { _, e := b.Prune(); return e }},
		{"Prune of two", func() *bench {
			b := at(t, small(1), 0)
			b.admitted(t, 1, 2, 3)
			b.fetched(t, 5)
			return b
		}, func(b *bench) api.Errno { _, e := b.Prune(); return e }},
		{"Open", litter, func(b *bench) api.Errno { _, e := Open(b.d, b.c, b.node); return e }},
		{"Open of nothing left", swapped(2, false), func(b *bench) api.Errno { _, e := Open(b.d, b.c, b.node); return e }},
	}
}

// some are numbers of bytes that survive of an Append.
func some() []int { return []int{0, 1, 30, 999} }

// broken lets a call be broken off in all ways, and tells what there is then and what the call answered.
func broken(t *testing.T, bytes []int, ready func() (*disk.Disk, func() api.Errno), tell func(what string, d *disk.Disk, e api.Errno, again func() *disk.Disk)) {
	t.Helper()
	d, call := ready()
	before := d.Acts()
	call()
	acts := d.Acts() - before
	for k := range acts + 1 {
		for keep, pending := 0, 0; keep <= pending; keep++ {
			var last []api.Stored
			for _, torn := range bytes {
				var e api.Errno
				again := func() *disk.Disk {
					d, call := ready()
					done(t, d.Arm(k))
					e = call()
					pending = d.Pending()
					d.Crash(keep, torn)
					return d
				}
				d := again()
				left := d.Dump()
				if torn > 0 && slices.Equal(left, last) {
					break // all its bytes were there, or it is no Append
				}
				last = left
				tell(fmt.Sprintf("%d of %d acts, %d changes and %d bytes survive", k, acts, keep, torn), d, e, again)
			}
		}
	}
}

// course is what a tale may lead to.
type course struct {
	tale
	ahead, behind api.State
	held          bool // a partial directory has something safe
}

func (x tale) course(t *testing.T) course {
	t.Helper()
	b := x.ready()
	c := course{tale: x, ahead: b.State(), held: has(b.d, safePath)}
	x.call(b)
	c.behind = opens(t, b.d, b.c, b.node).State()
	if x.what == "Open" {
		c.ahead = c.behind // what is not whole was there, but is no version
	}
	return c
}

// again makes a tale's call one that can be broken off.
func (x tale) again() (*disk.Disk, func() api.Errno) {
	b := x.ready()
	return b.d, func() api.Errno { return x.call(b) }
}

// oldOrNew holds that what a store has is what it had, or what it was to have.
func (c course) oldOrNew(t *testing.T, what string, x *Engine, d *disk.Disk, isNew bool) {
	t.Helper()
	s := x.State()
	mark := func(s api.State) [4]int { return [4]int{s.Cur, s.Prev, s.Epoch, s.Seq} }
	if mark(s) != mark(c.behind) && (isNew || mark(s) != mark(c.ahead)) {
		t.Fatalf("%s: %+v, want %+v or %+v (new: %v)", what, s, c.ahead, c.behind, isNew)
	}
	for v := range 12 {
		had, will, now := slices.Contains(c.ahead.Have, v), slices.Contains(c.behind.Have, v), slices.Contains(s.Have, v)
		if had == will && now != had || isNew && now != will {
			t.Fatalf("%s: it has %v, ahead %v, behind %v (new: %v)", what, s.Have, c.ahead.Have, c.behind.Have, isNew)
		}
	}
	for _, v := range s.Have {
		reads(t, what, x, small(1), 0, v, data(v, 0))
	}
	if s.Cur != 0 {
		serves(t, what, x, s.Cur)
	}
	if text, e := d.Read(safePath, 0, 100); c.held && (text != "some" || e != api.OK) {
		t.Fatalf("%s: in the partial directory: %q, %d", what, text, e)
	}
}

// settled holds that a second Open does nothing and finds the same, safe from another crash.
func settled(t *testing.T, what string, x *Engine, d *disk.Disk) {
	t.Helper()
	s := x.State()
	calm(t, what+": a second Open", d, func() { same(t, what, opens(t, d, x.cluster, x.node).State(), s) })
	d.Crash(0, 0)
	same(t, what+", and a crash", opens(t, d, x.cluster, x.node).State(), s)
}

func TestBrokenOff(t *testing.T) {
	for _, x := range tales(t) {
		t.Run(x.what, func(t *testing.T) {
			t.Parallel()
			c := x.course(t)
			of := x.ready().c
			broken(t, some(), x.again, func(how string, d *disk.Disk, e api.Errno, _ func() *disk.Disk) {
				x, f := Open(d, of, 0)
				if f != api.OK {
					t.Fatalf("%s: Open = %d", how, f)
				}
				c.oldOrNew(t, how, x, d, e == api.OK)
				settled(t, how, x, d)
			})
		})
	}
}

// The Open is broken off too, in all ways, and once more somewhere.
func TestRecoveryIsBrokenOff(t *testing.T) {
	for i, x := range tales(t) {
		t.Run(x.what, func(t *testing.T) {
			t.Parallel()
			c := x.course(t)
			of := x.ready().c
			lot := dice(i)
			broken(t, some(), x.again, func(how string, d *disk.Disk, e api.Errno, again func() *disk.Disk) {
				if lot.roll(40) != 0 {
					return
				}
				first := opens(t, d, of, 0).State()
				opened := func() (*disk.Disk, func() api.Errno) {
					d := again()
					return d, func() api.Errno { _, e := Open(d, of, 0); return e }
				}
				broken(t, some(), opened, func(then string, d *disk.Disk, _ api.Errno, _ func() *disk.Disk) {
					what := how + "; Open, " + then
					done(t, d.Arm(lot.roll(6)))
					Open(d, of, 0)
					d.Crash(lot.roll(4), 0)
					x := opens(t, d, of, 0)
					same(t, what, x.State(), first)
					c.oldOrNew(t, what, x, d, e == api.OK)
				})
			})
		})
	}
}

// Where nothing else is pending: each number of bytes of the pointer's text survives, and the Open behind it is broken off at every place.
func TestBrokenOffAnywhere(t *testing.T) {
	var bytes []int
	for n := range len(pointer(t, 3, 2, 4, 1)) + 2 {
		bytes = append(bytes, n)
	}
	ready := func() *bench {
		b := served(t, alone(t), 2, 1, 1, 2, 3)
		put(t, b.d, safePath, "some")
		safe(t, b.d)
		return b
	}
	for _, x := range []tale{
		{"Swap", ready, func(b *bench) api.Errno { return b.Swap(3, 4, 1) }},
		{"Rollback", ready, func(b *bench) api.Errno { return b.Rollback(1, 2) }},
		{"Admit", func() *bench { b := ready(); b.fetched(t, 5); safe(t, b.d); return b }, func(b *bench) api.Errno { return b.Admit(5) }},
		{"Prune", func() *bench { b := ready(); b.admitted(t, 4, 5); return b }, func(b *bench) api.Errno { _, e := b.Prune(); return e }},
		{"Open", func() *bench {
			b := ready()
			put(t, b.d, "store/latest.new/x", "x")
			put(t, b.d, "store/trash-4/x", "x")
			put(t, b.d, "store/version-5/meta", "x")
			put(t, b.d, "store/version-6", "x")
			safe(t, b.d)
			return b
		}, func(b *bench) api.Errno { _, e := Open(b.d, b.c, b.node); return e }},
	} {
		t.Run(x.what, func(t *testing.T) {
			t.Parallel()
			c := x.course(t)
			broken(t, bytes, x.again, func(how string, d *disk.Disk, e api.Errno, again func() *disk.Disk) {
				first := opens(t, d, small(2), 0)
				c.oldOrNew(t, how, first, d, e == api.OK)
				opened := func() (*disk.Disk, func() api.Errno) {
					d := again()
					return d, func() api.Errno { _, e := Open(d, small(2), 0); return e }
				}
				broken(t, some(), opened, func(then string, d *disk.Disk, _ api.Errno, _ func() *disk.Disk) {
					x := opens(t, d, small(2), 0)
					same(t, how+"; Open, "+then, x.State(), first.State())
					settled(t, how+"; Open, "+then, x, d)
				})
			})
		})
	}
}

// An Open of an empty disk is broken off: the next one makes the store.
func TestFirstOpenIsBrokenOff(t *testing.T) {
	ready := func() (*disk.Disk, func() api.Errno) {
		d := fresh(t, 1000)
		return d, func() api.Errno { _, e := Open(d, small(1), 0); return e }
	}
	broken(t, some(), ready, func(how string, d *disk.Disk, _ api.Errno, _ func() *disk.Disk) {
		x := opens(t, d, small(1), 0)
		stateIs(t, how, x, 0, 0, 0, 0)
		is(t, how, names(t, d), "")
	})
}

// What was answered with OK outlives any crash.
func TestWhatIsDoneStays(t *testing.T) {
	for _, x := range tales(t) {
		c := x.course(t)
		b := x.ready()
		if x.call(b) != api.OK {
			continue
		}
		b.d.Crash(0, 0)
		same(t, x.what, opens(t, b.d, b.c, b.node).State(), c.behind)
	}
}
