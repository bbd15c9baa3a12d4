package throttle

import (
	"sync"

	"granary/api"
)

// The greatest numbers that a bucket is made with or told. The parts of the longest Tick at the greatest rate are 2 to the power 56: far from an int's end.
const (
	mostRate  = 1 << 16
	mostPer   = 1 << 10
	mostBurst = 1 << 16
	mostTicks = 1 << 40
)

// Bucket holds tokens. Its fields are the program's own business.
type Bucket struct {
	rate, per, burst int // as it was made: they never change, so no lock is needed to read them
	lock             sync.Mutex
	parts            int // what lies in it: per of them are a token
}

// NewBucket is a full one: rate tokens come in each per ticks, and no more than burst lie in it.
func NewBucket(rate, per, burst int) (*Bucket, api.Errno) {
	if !within(rate, 1, mostRate) || !within(per, 1, mostPer) || !within(burst, 1, mostBurst) {
		return nil, api.ErrArg
	}
	return &Bucket{rate: rate, per: per, burst: burst, parts: burst * per}, api.OK
}

// none tells whether there is no bucket: one that NewBucket did not make is none either, it has no rate.
func (b *Bucket) none() bool { return b == nil || b.rate == 0 }

// Tick lets n ticks go by.
func (b *Bucket) Tick(n int) api.Errno {
	if b.none() {
		return api.ErrNil
	}
	if !within(n, 0, mostTicks) {
		return api.ErrArg
	}
	b.lock.Lock()
	defer b.lock.Unlock()
	b.parts = min(b.parts+n*b.rate, b.burst*b.per)
	return api.OK
}

// Take takes n tokens out, if there are so many.
func (b *Bucket) Take(n int) (bool, api.Errno) {
	if errno := b.check(n); errno != api.OK {
		return false, errno
	}
	b.lock.Lock()
	defer b.lock.Unlock()
	if b.parts < n*b.per {
		return false, api.OK
	}
	b.parts -= n * b.per
	return true, api.OK
}

// Wait is how many ticks it takes until there are n.
func (b *Bucket) Wait(n int) (int, api.Errno) {
	if errno := b.check(n); errno != api.OK {
		return 0, errno
	}
	b.lock.Lock()
	defer b.lock.Unlock()
	lacking := max(n*b.per-b.parts, 0)
	return (lacking + b.rate - 1) / b.rate, api.OK
}

// check tells why n tokens cannot be asked for, if so.
func (b *Bucket) check(n int) api.Errno {
	switch {
	case b.none():
		return api.ErrNil
	case n < 0:
		return api.ErrArg
	case n > b.burst:
		return api.ErrNever
	}
	return api.OK
}

// Level is how many whole tokens there are.
func (b *Bucket) Level() int {
	if b.none() {
		return 0
	}
	b.lock.Lock()
	defer b.lock.Unlock()
	return b.parts / b.per
}
