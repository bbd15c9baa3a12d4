package engine

import (
	"fmt"
	"strings"
	"testing"

	"granary/api"
)

// P12.6

// orders are numbers about the edges of an epoch or a seq, and whether they may be.
func orders() map[int]bool {
	return map[int]bool{leastInt: false, -1: false, 0: true, 1: true, 2: true, most - 1: true, most: true, most + 1: false, mostInt: false}
}

func TestOrdersThatMayNotBe(t *testing.T) {
	b := served(t, alone(t), 2, 1, 1, 2)
	calm(t, "orders", b.d, func() {
		for epoch, good := range orders() {
			for seq, fine := range orders() {
				if good && fine {
					continue
				}
				for _, v := range []int{leastInt, -1, 0, 1, 2, 3, 999999, 1000000, mostInt} {
					is(t, fmt.Sprintf("Swap(%d, %d, %d)", v, epoch, seq), b.Swap(v, epoch, seq), api.ErrArg)
				}
				is(t, fmt.Sprintf("Rollback(%d, %d)", epoch, seq), b.Rollback(epoch, seq), api.ErrArg)
			}
		}
	})
	stateIs(t, "as it was", b.Engine, 2, 1, 1, 1, 1, 2)
}

func TestVersionsThatMayNotBe(t *testing.T) {
	b := served(t, alone(t), 2, 1, 1, 2)
	calm(t, "versions", b.d, func() {
		for epoch, good := range orders() {
			for seq, fine := range orders() {
				if good && fine {
					for _, v := range []int{leastInt, -1, 0, 1000000, mostInt} { // whatever the fence
						is(t, fmt.Sprintf("Swap(%d, %d, %d)", v, epoch, seq), b.Swap(v, epoch, seq), api.ErrVersion)
					}
				}
			}
		}
		for _, v := range []int{3, 10, 999999} {
			is(t, fmt.Sprintf("Swap(%d)", v), b.Swap(v, 2, 1), api.ErrAbsent)
			is(t, fmt.Sprintf("Swap(%d) below the fence", v), b.Swap(v, 1, 0), api.ErrStale)
			is(t, fmt.Sprintf("Swap(%d) at the fence", v), b.Swap(v, 1, 1), api.ErrStale)
		}
	})
	stateIs(t, "as it was", b.Engine, 2, 1, 1, 1, 1, 2)
}

// Orders below, at and above the fence, in the epoch and in the seq.
func TestFence(t *testing.T) {
	for _, fence := range [][2]int{{0, 0}, {0, 5}, {5, 0}, {5, 5}, {most, 0}, {0, most}, {most, most}, {most - 1, most}} {
		for _, epoch := range []int{0, 4, 5, 6, most - 1, most} {
			for _, seq := range []int{0, 4, 5, 6, most - 1, most} {
				what := fmt.Sprintf("the fence %v, the order %d, %d", fence, epoch, seq)
				ready := func() *bench {
					b := alone(t)
					b.admitted(t, 1, 2)
					points(t, b.d, 1, 2, fence[0], fence[1])
					b.again(t)
					return b
				}
				below := epoch < fence[0] || epoch == fence[0] && seq < fence[1]
				at := epoch == fence[0] && seq == fence[1]
				b := ready()
				acts := b.d.Acts()
				e := b.Swap(2, epoch, seq)
				if below || at {
					is(t, what+": Swap(2)", e, api.ErrStale)
					is(t, what+": acts", b.d.Acts(), acts)
					stateIs(t, what, b.Engine, 1, 2, fence[0], fence[1], 1, 2)
				} else {
					is(t, what+": Swap(2)", e, api.OK)
					is(t, what+": acts", b.d.Acts(), acts+5)
					stateIs(t, what, b.Engine, 2, 1, epoch, seq, 1, 2)
				}
				b = ready()
				e = b.Swap(1, epoch, seq)
				if below {
					is(t, what+": Swap(1)", e, api.ErrStale)
				} else if at {
					is(t, what+": Swap(1)", e, api.OK)
					stateIs(t, what, b.Engine, 1, 2, fence[0], fence[1], 1, 2)
				} else {
					is(t, what+": Swap(1)", e, api.OK)
					stateIs(t, what, b.Engine, 1, 1, epoch, seq, 1, 2)
				}
				b = ready()
				acts = b.d.Acts()
				e = b.Rollback(epoch, seq)
				switch {
				case below:
					is(t, what+": Rollback", e, api.ErrStale)
					is(t, what+": acts", b.d.Acts(), acts)
					stateIs(t, what, b.Engine, 1, 2, fence[0], fence[1], 1, 2)
				case at:
					is(t, what+": Rollback", e, api.OK)
					is(t, what+": acts", b.d.Acts(), acts)
					stateIs(t, what, b.Engine, 1, 2, fence[0], fence[1], 1, 2)
				case epoch == fence[0]:
					is(t, what+": Rollback", e, api.OK)
					stateIs(t, what, b.Engine, 2, 2, epoch, seq, 1, 2)
				default:
					is(t, what+": Rollback", e, api.OK)
					stateIs(t, what, b.Engine, 1, 1, epoch, seq, 1, 2)
				}
			}
		}
	}
}

// A store without a pointer has the fence {0, 0}, and no current version.
func TestOrdersWithoutAPointer(t *testing.T) {
	b := alone(t)
	b.admitted(t, 1)
	calm(t, "at the fence", b.d, func() {
		is(t, "Swap", b.Swap(1, 0, 0), api.ErrStale)
		is(t, "Rollback", b.Rollback(0, 0), api.OK)
	})
	is(t, "no pointer", names(t, b.d), "version-1")
	done(t, b.Rollback(0, 1))
	stateIs(t, "Rollback to none, of the same epoch", b.Engine, 0, 0, 0, 1, 1)
	done(t, b.Rollback(7, 0))
	stateIs(t, "Rollback to none, of a later one", b.Engine, 0, 0, 7, 0, 1)
	getIs(t, "none is current", b.Engine, "abc", api.Answer{}, api.ErrEmpty)
	done(t, b.Swap(1, 7, 1))
	stateIs(t, "Swap", b.Engine, 1, 0, 7, 1, 1)
	done(t, b.Rollback(7, 2))
	stateIs(t, "Prev was 0", b.Engine, 0, 0, 7, 2, 1)
	getIs(t, "none is current", b.Engine, "abc", api.Answer{}, api.ErrEmpty)
	b.again(t)
	stateIs(t, "opened anew", b.Engine, 0, 0, 7, 2, 1)
}

func TestRollbackToWhatIsGone(t *testing.T) {
	b := alone(t)
	b.admitted(t, 2)
	points(t, b.d, 2, 1, 5, 1)
	b.again(t)
	calm(t, "Prev is gone", b.d, func() {
		is(t, "Rollback of its epoch", b.Rollback(5, 2), api.ErrAbsent)
		is(t, "Rollback below", b.Rollback(5, 0), api.ErrStale)
		is(t, "Rollback at", b.Rollback(5, 1), api.OK)
	})
	stateIs(t, "as it was", b.Engine, 2, 1, 5, 1, 2)
	b.admitted(t, 1) // it comes again
	done(t, b.Rollback(5, 2))
	stateIs(t, "Prev is there again", b.Engine, 1, 1, 5, 2, 1, 2)
	points(t, b.d, 0, 9, 5, 1)
	b.again(t)
	is(t, "Cur 0, Prev gone", b.Rollback(5, 2), api.ErrAbsent)
	done(t, b.Rollback(6, 2))
	stateIs(t, "Cur 0 stays", b.Engine, 0, 0, 6, 2, 1, 2)
}

func TestPointerActs(t *testing.T) {
	ready := func() *bench { return served(t, alone(t), 2, 1, 1, 2, 3) }
	actsAre(t, "Swap", calling(ready, func(b *bench) api.Errno { return b.Swap(3, 4, 1) }), api.OK, pointing(pointer(t, 3, 2, 4, 1)))
	actsAre(t, "Rollback", calling(ready, func(b *bench) api.Errno { return b.Rollback(1, most) }), api.OK, pointing(pointer(t, 1, 1, 1, most)))
	actsAre(t, "Rollback of a later epoch", calling(ready, func(b *bench) api.Errno { return b.Rollback(most, 0) }), api.OK, pointing(pointer(t, 2, 2, most, 0)))
	first := func() *bench { b := alone(t); b.admitted(t, 1); return b }
	actsAre(t, "the first Swap", calling(first, func(b *bench) api.Errno { return b.Swap(1, 0, 1) }), api.OK, pointing(pointer(t, 1, 0, 0, 1)))
	b := ready()
	done(t, b.Swap(3, 4, 1))
	is(t, "the text", bytesOf(t, b.d, "store/latest"), pointer(t, 3, 2, 4, 1))
	is(t, "nothing is pending", b.d.Pending(), 0)
}

// Each room that is too small, and the first that is not.
func TestNoRoomForThePointer(t *testing.T) {
	text := pointer(t, 3, 2, 4, 1)
	for room := range len(text) + 2 {
		ready := func() *bench {
			b := served(t, alone(t), 2, 1, 1, 2, 3)
			fill(t, b.d, room)
			safe(t, b.d)
			return b
		}
		call := func(b *bench) api.Errno { return b.Swap(3, 4, 1) }
		if room >= len(text) {
			actsAre(t, "room", calling(ready, call), api.OK, pointing(text))
			continue
		}
		b := ready()
		acts := b.d.Acts()
		for range 3 {
			is(t, "Swap", call(b), api.ErrFull)
			is(t, "Rollback", b.Rollback(1000, 1000), api.ErrFull)
		}
		is(t, "acts", b.d.Acts(), acts+12)
		is(t, "names", names(t, b.d), "latest version-1 version-2 version-3")
		stateIs(t, "as it was", b.Engine, 2, 1, 1, 1, 1, 2, 3)
		serves(t, "as it was", b.Engine, 2)
		b.again(t)
		stateIs(t, "opened anew", b.Engine, 2, 1, 1, 1, 1, 2, 3)
		done(t, b.d.Remove("fill"))
		done(t, call(b))
		stateIs(t, "with room", b.Engine, 3, 2, 4, 1, 1, 2, 3)
	}
	ready := func() *bench {
		b := served(t, alone(t), 2, 1, 1, 2, 3)
		fill(t, b.d, len(text)-1)
		safe(t, b.d)
		return b
	}
	actsAre(t, "no room", calling(ready, func(b *bench) api.Errno { return b.Swap(3, 4, 1) }), api.ErrFull,
		deeds("create store/latest.new\nremove store/latest.new"))
}

// The Remove behind an Append that found no room takes the disk down: that error is told, and the engine is stuck.
func TestNoRoomAndDown(t *testing.T) {
	b := served(t, alone(t), 2, 1, 1, 2)
	fill(t, b.d, 0)
	safe(t, b.d)
	done(t, b.d.Arm(1))
	is(t, "Swap", b.Swap(1, 2, 1), api.ErrDown)
	isStuck(t, "behind it", b.Engine)
	b.d.Crash(9, 9)
	b.again(t)
	stateIs(t, "opened anew", b.Engine, 2, 1, 1, 1, 1, 2)
	is(t, "names", names(t, b.d), "latest version-1 version-2")
}

// An order that is refused asks nothing of the disk: down or not, the engine goes on.
func TestOrdersOnADiskThatIsDown(t *testing.T) {
	b := served(t, alone(t), 2, 1, 1, 2)
	down(t, b.d)
	is(t, "at the fence", b.Swap(2, 1, 1), api.OK)
	is(t, "at the fence", b.Rollback(1, 1), api.OK)
	is(t, "below it", b.Swap(2, 1, 0), api.ErrStale)
	is(t, "absent", b.Swap(3, 2, 1), api.ErrAbsent)
	is(t, "a wrong number", b.Rollback(-1, 1), api.ErrArg)
	stateIs(t, "as it was", b.Engine, 2, 1, 1, 1, 1, 2)
	is(t, "above it", b.Swap(1, 2, 1), api.ErrDown)
	isStuck(t, "behind it", b.Engine)
}

// Somebody else's file is in the way of the new pointer: the error of the Create is told.
func TestNewPointerIsThere(t *testing.T) {
	b := served(t, alone(t), 2, 1, 1, 2)
	put(t, b.d, "store/latest.new", strings.Repeat("x", 9))
	is(t, "Swap", b.Swap(1, 2, 1), api.ErrThere)
	isStuck(t, "behind it", b.Engine)
	b.again(t)
	stateIs(t, "opened anew", b.Engine, 2, 1, 1, 1, 1, 2)
}

// P12.8

// Behind each order the answers come from what is current then.
func TestGetFollowsTheOrders(t *testing.T) {
	b := second(t)
	b.admitted(t, 1, 2, 3)
	getIs(t, "none", b.Engine, "abc", api.Answer{}, api.ErrEmpty)
	getIs(t, "none, and no key", b.Engine, "", api.Answer{}, api.ErrEmpty)
	for i, c := range []struct {
		do  func() api.Errno
		cur int
	}{
		{func() api.Errno { return b.Swap(2, 1, 1) }, 2},
		{func() api.Errno { return b.Swap(3, 2, 1) }, 3},
		{func() api.Errno { return b.Rollback(2, 2) }, 2},
		{func() api.Errno { return b.Rollback(3, 2) }, 2},
		{func() api.Errno { return b.Swap(1, 4, 1) }, 1},
		{func() api.Errno { return b.Swap(3, 5, 1) }, 3},
		{func() api.Errno { return b.Rollback(5, 2) }, 1},
		{func() api.Errno { return b.Swap(1, 6, 1) }, 1},
		{func() api.Errno { return b.Rollback(6, 2) }, 1},
	} {
		done(t, c.do())
		serves(t, fmt.Sprint("order ", i), b.Engine, c.cur)
		x := opens(t, b.d, b.c, b.node)
		serves(t, fmt.Sprint("order ", i, ", opened anew"), x, c.cur)
		same(t, "State", x.State(), b.State())
	}
}
