package throttle

import (
	"testing"

	"granary/api"
)

// P10.1

func TestNewBucket(t *testing.T) {
	rates, pers, bursts := edges(65536), edges(1024), edges(65536)
	for rate, rateFits := range rates {
		for per, perFits := range pers {
			for burst, burstFits := range bursts {
				b, e := NewBucket(rate, per, burst)
				if rateFits && perFits && burstFits {
					if b == nil || e != api.OK {
						t.Errorf("NewBucket(%d, %d, %d) = %v, %d", rate, per, burst, b != nil, e)
					}
					levelIs(t, b, burst)
				} else if b != nil || e != api.ErrArg {
					t.Errorf("NewBucket(%d, %d, %d) = %v, %d, want ErrArg", rate, per, burst, b != nil, e)
				}
			}
		}
	}
}

// edges are the numbers about the ends of 1 to most, and whether they are within.
func edges(most int) map[int]bool {
	return map[int]bool{leastInt: false, -1: false, 0: false, 1: true, 2: true, most - 1: true, most: true, most + 1: false, mostInt: false}
}

func TestFullAtFirst(t *testing.T) {
	b := bucket(t, 3, 7, 5)
	tickIs(t, b, 1000, api.OK)
	levelIs(t, b, 5)
	takeIs(t, b, 5, true, api.OK)
	levelIs(t, b, 0)
	takeIs(t, b, 1, false, api.OK)
}

func TestNoBucket(t *testing.T) {
	for what, b := range map[string]*Bucket{"nil": nil, "not made": new(Bucket)} {
		for _, n := range []int{leastInt, -1, 0, 1, 65537, longest + 1, mostInt} {
			is(t, what+": Tick", b.Tick(n), api.ErrNil)
			takeIs(t, b, n, false, api.ErrNil)
			waitIs(t, b, n, 0, api.ErrNil)
			levelIs(t, b, 0)
		}
	}
}

// P10.2

func TestTickEdges(t *testing.T) {
	b := empty(t, 1, 1, 10)
	for _, n := range []int{leastInt, -longest, -1, longest + 1, mostInt} {
		tickIs(t, b, n, api.ErrArg)
		levelIs(t, b, 0)
	}
	tickIs(t, b, 0, api.OK)
	levelIs(t, b, 0)
	tickIs(t, b, 1, api.OK)
	levelIs(t, b, 1)
	tickIs(t, b, longest, api.OK)
	levelIs(t, b, 10)
}

func TestTickGreatest(t *testing.T) {
	for _, per := range []int{1, 1024} {
		for _, rate := range []int{1, 65536} {
			b := empty(t, rate, per, 65536)
			tickIs(t, b, longest-1, api.OK)
			levelIs(t, b, 65536)
			tickIs(t, b, longest, api.OK)
			levelIs(t, b, 65536)
			takeIs(t, b, 65536, true, api.OK)
			levelIs(t, b, 0)
			waitIs(t, b, 1, (per+rate-1)/rate, api.OK)
		}
	}
}

func TestFractions(t *testing.T) {
	b := empty(t, 7, 1000, 1000)
	for n := 1; n <= 3000; n++ {
		tickIs(t, b, 1, api.OK)
		levelIs(t, b, 7*n/1000)
	}
	b = empty(t, 1000, 7, 65536)
	for n := 1; n <= 400; n++ {
		tickIs(t, b, 1, api.OK)
		levelIs(t, b, 1000*n/7)
	}
}

// A take leaves the fraction where it is.
func TestFractionStays(t *testing.T) {
	b := bucket(t, 10, 4, 64)
	takeIs(t, b, 60, true, api.OK)
	tickIs(t, b, 1, api.OK)
	takeIs(t, b, 6, true, api.OK)
	levelIs(t, b, 0)
	tickIs(t, b, 1, api.OK) // two parts were there, ten came
	levelIs(t, b, 3)
}

// What does not fit is lost, the fraction too.
func TestOverflowIsLost(t *testing.T) {
	b := bucket(t, 2, 3, 1)
	tickIs(t, b, 5, api.OK)
	takeIs(t, b, 1, true, api.OK)
	waitIs(t, b, 1, 2, api.OK)
	tickIs(t, b, 1, api.OK)
	levelIs(t, b, 0)
	tickIs(t, b, 1, api.OK) // four parts would be there, three fit
	levelIs(t, b, 1)
	takeIs(t, b, 1, true, api.OK)
	waitIs(t, b, 1, 2, api.OK)
}

func TestTicksInTwoParts(t *testing.T) {
	for _, c := range [][3]int{{1, 1, 5}, {7, 10, 3}, {10, 7, 3}, {1, 1024, 2}, {65536, 1, 65536}, {65535, 1024, 65536}} {
		for _, total := range []int{0, 1, 2, 3, 10, 1025, 4096, longest} {
			for _, first := range []int{0, 1, 2, 1000, total / 3, total / 2, total - 1, total} {
				if first < 0 || first > total {
					continue
				}
				once, twice := empty(t, c[0], c[1], c[2]), empty(t, c[0], c[1], c[2])
				tickIs(t, once, total, api.OK)
				tickIs(t, twice, first, api.OK)
				tickIs(t, twice, total-first, api.OK)
				alike(t, once, twice, c[2])
			}
		}
	}
}

// alike holds that two buckets have the same parts in them, as far as the calls tell it.
func alike(t *testing.T, one, other *Bucket, burst int) {
	t.Helper()
	is(t, "the other's level", other.Level(), one.Level())
	for _, n := range []int{one.Level(), one.Level() + 1, burst} {
		ticks, e := one.Wait(n)
		waitIs(t, other, n, ticks, e)
	}
}

// P10.3

func TestTakeEdges(t *testing.T) {
	for _, burst := range []int{1, 2, 64, 65536} {
		b := bucket(t, 3, 5, burst)
		for _, n := range []int{leastInt, -65536, -1} {
			takeIs(t, b, n, false, api.ErrArg)
		}
		for _, n := range []int{burst + 1, 65537, mostInt} {
			takeIs(t, b, n, false, api.ErrNever)
		}
		levelIs(t, b, burst)
		takeIs(t, b, 0, true, api.OK)
		levelIs(t, b, burst)
		takeIs(t, b, burst-1, true, api.OK)
		levelIs(t, b, 1)
		takeIs(t, b, burst+1, false, api.ErrNever)
		takeIs(t, b, 1, true, api.OK)
		takeIs(t, b, burst, false, api.OK)
		takeIs(t, b, 1, false, api.OK)
		takeIs(t, b, 0, true, api.OK)
		levelIs(t, b, 0)
	}
}

func TestTakeTheLevel(t *testing.T) {
	b := bucket(t, 1, 2, 10)
	takeIs(t, b, 7, true, api.OK)
	tickIs(t, b, 1, api.OK) // three and a half
	takeIs(t, b, 4, false, api.OK)
	levelIs(t, b, 3)
	takeIs(t, b, 3, true, api.OK)
	levelIs(t, b, 0)
	tickIs(t, b, 1, api.OK)
	takeIs(t, b, 1, true, api.OK)
}

// P10.4

func TestWaitEdges(t *testing.T) {
	for _, burst := range []int{1, 2, 64, 65536} {
		b := bucket(t, 3, 5, burst)
		for _, n := range []int{leastInt, -1} {
			waitIs(t, b, n, 0, api.ErrArg)
		}
		for _, n := range []int{burst + 1, mostInt} {
			waitIs(t, b, n, 0, api.ErrNever)
		}
		waitIs(t, b, 0, 0, api.OK)
		waitIs(t, b, burst, 0, api.OK)
		takeIs(t, b, burst, true, api.OK)
		waitIs(t, b, 0, 0, api.OK)
		waitIs(t, b, 1, 2, api.OK)
		waitIs(t, b, burst, (5*burst+2)/3, api.OK)
		waitIs(t, b, burst+1, 0, api.ErrNever)
	}
}

func TestWaitOfTheLevel(t *testing.T) {
	b := bucket(t, 1, 2, 10)
	takeIs(t, b, 7, true, api.OK)
	tickIs(t, b, 1, api.OK) // three and a half
	waitIs(t, b, 3, 0, api.OK)
	waitIs(t, b, 4, 1, api.OK)
	waitIs(t, b, 10, 13, api.OK)
}

func TestWaitGreatest(t *testing.T) {
	waitIs(t, empty(t, 1, 1024, 65536), 65536, 67108864, api.OK)
	waitIs(t, empty(t, 65536, 1024, 65536), 65536, 1024, api.OK)
	waitIs(t, empty(t, 65536, 1, 1), 1, 1, api.OK)
}

// TestWaitIsJustLongEnough asks behind the wait, and one tick ahead of its end.
func TestWaitIsJustLongEnough(t *testing.T) {
	for _, c := range [][3]int{{1, 1, 9}, {10, 4, 64}, {3, 7, 9}, {7, 3, 9}, {1, 1024, 3}, {65536, 1, 2}, {1000, 1023, 65536}} {
		for taken := range 2 {
			for _, n := range []int{1, 2, c[2] / 2, c[2] - 1, c[2]} {
				b := empty(t, c[0], c[1], c[2])
				tickIs(t, b, taken, api.OK)
				ticks, e := b.Wait(n)
				if e != api.OK || n > c[2] || ticks == 0 {
					continue
				}
				tickIs(t, b, ticks-1, api.OK)
				waitIs(t, b, n, 1, api.OK)
				takeIs(t, b, n, false, api.OK)
				tickIs(t, b, 1, api.OK)
				waitIs(t, b, n, 0, api.OK)
				takeIs(t, b, n, true, api.OK)
			}
		}
	}
}

func TestWaitChangesNothing(t *testing.T) {
	b := bucket(t, 2, 3, 8)
	takeIs(t, b, 8, true, api.OK)
	tickIs(t, b, 1, api.OK)
	for range 5 {
		waitIs(t, b, 1, 1, api.OK)
		waitIs(t, b, 8, 11, api.OK)
		levelIs(t, b, 0)
	}
}

// P10.5

func TestLevel(t *testing.T) {
	b := empty(t, 1, 3, 2)
	for _, want := range []int{0, 0, 0, 1, 1, 1, 2, 2, 2, 2} {
		levelIs(t, b, want)
		levelIs(t, b, want)
		tickIs(t, b, 1, api.OK)
	}
}

// P10.8

func TestBucketsBesideOneAnother(t *testing.T) {
	one, other := bucket(t, 2, 3, 5), bucket(t, 2, 3, 5)
	takeIs(t, one, 5, true, api.OK)
	levelIs(t, other, 5)
	takeIs(t, other, 3, true, api.OK)
	tickIs(t, one, 3, api.OK)
	levelIs(t, one, 2)
	levelIs(t, other, 2)
	tickIs(t, other, 1, api.OK)
	takeIs(t, one, 2, true, api.OK)
	waitIs(t, one, 1, 2, api.OK)
	waitIs(t, other, 3, 1, api.OK)
}
