package throttle

import "granary/api"

// The greatest numbers that a budget is made with.
const (
	mostTries = 64
	mostWait  = 1024
)

// Budget counts tries. Its fields are the program's own business.
type Budget struct {
	tries, base, most int
	failed            map[api.Item]int // only items that failed stand in it, so that it grows no more than it must
}

// NewBudget is one with so many tries for each item; the first wait is base ticks, each later one twice as long, up to most.
func NewBudget(tries, base, most int) (*Budget, api.Errno) {
	if !within(tries, 1, mostTries) || !within(base, 1, mostWait) || !within(most, base, mostWait) {
		return nil, api.ErrArg
	}
	return &Budget{tries: tries, base: base, most: most, failed: map[api.Item]int{}}, api.OK
}

// none tells whether there is no budget: one that NewBudget did not make is none either, it has no tries.
func (b *Budget) none() bool { return b == nil || b.tries == 0 }

// Fail tells that a try failed at that time, and answers the time from which on the next one may be made.
func (b *Budget) Fail(it api.Item, now int) (int, api.Errno) {
	if b.none() {
		return 0, api.ErrNil
	}
	if !within(now, 0, api.MaxNumber) {
		return 0, api.ErrArg
	}
	if b.failed[it] == b.tries {
		return 0, api.ErrSpent
	}
	b.failed[it]++
	if b.failed[it] == b.tries {
		return 0, api.ErrSpent
	}
	return now + b.wait(b.failed[it]), api.OK
}

// wait is how many ticks the next try waits behind that many failures. It is held down with each doubling: 62 of them would leave an int.
func (b *Budget) wait(failures int) int {
	ticks := b.base
	for range failures - 1 {
		ticks = min(2*ticks, b.most)
	}
	return ticks
}

// Left is how many tries an item has left.
func (b *Budget) Left(it api.Item) int {
	if b.none() {
		return 0
	}
	return b.tries - b.failed[it]
}

// Clear forgets an item's failures.
func (b *Budget) Clear(it api.Item) api.Errno {
	if b.none() {
		return api.ErrNil
	}
	delete(b.failed, it)
	return api.OK
}
