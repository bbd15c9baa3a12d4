package throttle

import (
	"math/big"

	"granary/api"
)

// The plain reading of the chapter: a bucket as an exact fraction of tokens, a budget as a list of all that failed.

type reading struct {
	inflow *big.Rat // a tick's
	burst  *big.Rat
	tokens *big.Rat
}

func whole(n int) *big.Rat { return new(big.Rat).SetInt64(int64(n)) }

func readBucket(rate, per, burst int) (*reading, api.Errno) {
	if rate < 1 || rate > 65536 || per < 1 || per > 1024 || burst < 1 || burst > 65536 {
		return nil, api.ErrArg
	}
	return &reading{inflow: new(big.Rat).Quo(whole(rate), whole(per)), burst: whole(burst), tokens: whole(burst)}, api.OK
}

// after is what lies there when so many ticks have gone by.
func (r *reading) after(n int) *big.Rat {
	sum := new(big.Rat).Mul(r.inflow, whole(n))
	sum.Add(sum, r.tokens)
	if sum.Cmp(r.burst) > 0 {
		return r.burst
	}
	return sum
}

func (r *reading) tick(n int) api.Errno {
	if n < 0 || n > 1099511627776 {
		return api.ErrArg
	}
	r.tokens = r.after(n)
	return api.OK
}

func (r *reading) asked(n int) api.Errno {
	if n < 0 {
		return api.ErrArg
	}
	if whole(n).Cmp(r.burst) > 0 {
		return api.ErrNever
	}
	return api.OK
}

func (r *reading) take(n int) (bool, api.Errno) {
	if e := r.asked(n); e != api.OK {
		return false, e
	}
	if r.tokens.Cmp(whole(n)) < 0 {
		return false, api.OK
	}
	r.tokens = new(big.Rat).Sub(r.tokens, whole(n))
	return true, api.OK
}

// wait tries one number of ticks behind the other.
func (r *reading) wait(n int) (int, api.Errno) {
	if e := r.asked(n); e != api.OK {
		return 0, e
	}
	for ticks := 0; ; ticks++ {
		if r.after(ticks).Cmp(whole(n)) >= 0 {
			return ticks, api.OK
		}
	}
}

func (r *reading) level() int {
	return int(new(big.Int).Quo(r.tokens.Num(), r.tokens.Denom()).Int64())
}

type ledger struct {
	tries, base, most int
	failed            []api.Item
}

func readBudget(tries, base, most int) (*ledger, api.Errno) {
	if tries < 1 || tries > 64 || base < 1 || base > 1024 || most < base || most > 1024 {
		return nil, api.ErrArg
	}
	return &ledger{tries: tries, base: base, most: most}, api.OK
}

func (l *ledger) left(it api.Item) int {
	n := l.tries
	for _, other := range l.failed {
		if other == it {
			n--
		}
	}
	return n
}

func (l *ledger) fail(it api.Item, now int) (int, api.Errno) {
	if now < 0 || now > 9007199254740992 {
		return 0, api.ErrArg
	}
	if l.left(it) == 0 {
		return 0, api.ErrSpent
	}
	l.failed = append(l.failed, it)
	left := l.left(it)
	if left == 0 {
		return 0, api.ErrSpent
	}
	wait := new(big.Int).Lsh(big.NewInt(int64(l.base)), uint(l.tries-left-1))
	if wait.Cmp(big.NewInt(int64(l.most))) > 0 {
		return now + l.most, api.OK
	}
	return now + int(wait.Int64()), api.OK
}

func (l *ledger) clear(it api.Item) api.Errno {
	var kept []api.Item
	for _, other := range l.failed {
		if other != it {
			kept = append(kept, other)
		}
	}
	l.failed = kept
	return api.OK
}
