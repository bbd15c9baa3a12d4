package throttle

import (
	"sync"
	"sync/atomic"
	"testing"

	"granary/api"
)

// P10.8: many callers of one bucket at the same time.

// together runs something so many times at once, and waits for all of them.
func together(callers int, do func(caller int)) {
	var all sync.WaitGroup
	for caller := range callers {
		all.Add(1)
		go func() {
			defer all.Done()
			do(caller)
		}()
	}
	all.Wait()
}

func TestTakersTogether(t *testing.T) {
	b := bucket(t, 1, 4, 10000)
	var taken, refused atomic.Int64
	together(16, func(int) {
		for range 1000 {
			ok, e := b.Take(1)
			if e != api.OK {
				t.Errorf("Take: %d", e)
			}
			if ok {
				taken.Add(1)
			} else {
				refused.Add(1)
			}
		}
	})
	is(t, "taken", taken.Load(), 10000)
	is(t, "refused", refused.Load(), 6000)
	levelIs(t, b, 0)
}

func TestTickersTogether(t *testing.T) {
	b := empty(t, 3, 1024, 65536)
	together(16, func(int) {
		for range 20000 {
			b.Tick(1)
		}
	})
	levelIs(t, b, 3*16*20000/1024)
	waitIs(t, b, 3*16*20000/1024+1, 171, api.OK) // 512 parts are lacking, three come a tick
}

// TestAllTogether: what was taken out and what is left are what was there and what came in.
func TestAllTogether(t *testing.T) {
	b := bucket(t, 5, 2, 60000)
	takeIs(t, b, 30000, true, api.OK)
	var taken atomic.Int64
	together(12, func(caller int) {
		for i := range 2000 {
			switch caller % 4 {
			case 0:
				b.Tick(2) // five tokens
			case 1:
				n := i % 7
				if ok, _ := b.Take(n); ok {
					taken.Add(int64(n))
				}
			case 2:
				if n, e := b.Wait(60000); e != api.OK || n < 1 || n > 24000 {
					t.Errorf("Wait = %d, %d", n, e)
				}
			case 3:
				if n := b.Level(); n < 0 || n > 60000 {
					t.Errorf("Level = %d", n)
				}
			}
		}
	})
	levelIs(t, b, 30000+3*2000*5-int(taken.Load()))
}
