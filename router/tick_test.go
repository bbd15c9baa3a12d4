package router

import (
	"slices"
	"testing"

	"granary/api"
)

// P17.5

// Just the tick at which a get goes on, and the ones beside it.
func TestTicksTillItGoesOn(t *testing.T) {
	for _, w := range []int{1, 2, 3, 7, 1023, 1024} {
		for _, before := range []int{0, 1, 2, 5} {
			c := round(3, 3, w, 64, 1)
			r, key := made(t, c), keyIn(t, c, 1)
			wait(t, r, before)
			getIs(t, r, key, 1, 1)
			wait(t, r, w-1)
			tickIs(t, r, out(ask(2, 1, key)), nil)
			wait(t, r, w-1)
			tickIs(t, r, out(ask(0, 1, key)), nil)
			wait(t, r, w-1)
			openIs(t, r, 1)
			tickIs(t, r, nil, ends(unanswered(1, key)))
			openIs(t, r, 0)
			wait(t, r, 2*w)
		}
	}
}

// The waiting begins with the asking: an owner that was asked because another one said no has its own time.
func TestTicksBehindARefusal(t *testing.T) {
	c := round(3, 3, 4, 64, 1)
	key := keyIn(t, c, 0)
	for late := range 4 {
		r := made(t, c)
		getIs(t, r, key, 1, 0)
		wait(t, r, late)
		takeIs(t, r, got(0, 1, key, api.ErrEmpty, 0, ""), out(ask(1, 1, key)), nil)
		wait(t, r, 3)
		tickIs(t, r, out(ask(2, 1, key)), nil)
		wait(t, r, 2)
		// A no that comes late, or one of another, makes no difference to the time.
		takeIs(t, r, got(0, 1, key, api.ErrEmpty, 0, ""), nil, nil)
		takeIs(t, r, got(1, 1, key, api.ErrEmpty, 0, ""), nil, nil)
		takeIs(t, r, pong(2, 1), nil, nil)
		wait(t, r, 1)
		tickIs(t, r, nil, ends(unanswered(1, key)))
	}
}

// An answer in the last moment ahead of the tick, and one behind it.
func TestTicksAndAnswers(t *testing.T) {
	r := asked(t)
	wait(t, r, 1)
	takeIs(t, r, got(0, 1, "abc", api.OK, 7, "v"), nil, ends(found(1, "abc", 0, 7, "v")))
	wait(t, r, 9)
	getIs(t, r, "abc", 2, 0)
	wait(t, r, 1)
	tickIs(t, r, out(ask(1, 2, "abc")), nil)
	takeIs(t, r, got(0, 2, "abc", api.OK, 7, "v"), nil, ends(found(2, "abc", 0, 7, "v")))
	wait(t, r, 9)
}

// A get that was answered makes no strike.
func TestAnsweredGetsAreNoStrikes(t *testing.T) {
	c := round(2, 2, 1, 1, 100)
	r, key := made(t, c), keyIn(t, c, 0)
	for i := range 5 {
		getIs(t, r, key, i+1, 0)
		takeIs(t, r, got(0, i+1, key, api.ErrNoKey, 7, ""), nil, ends(lacks(i+1, key, 0, 7)))
		tickIs(t, r, nil, nil)
	}
	silentAre(t, r)
}

// Several gets go on in one tick, by rising tickets; those that asked later wait.
func TestSeveralGoOn(t *testing.T) {
	c := round(3, 2, 2, 64, 1)
	a, b := keyIn(t, c, 0), keyIn(t, c, 2)
	r := made(t, c)
	getAllIs(t, r, []string{b, a, b}, 1, ask(2, 1, b), ask(0, 2, a), ask(2, 3, b))
	wait(t, r, 1)
	getAllIs(t, r, []string{a, b}, 4, ask(0, 4, a), ask(2, 5, b))
	tickIs(t, r, out(ask(0, 1, b), ask(1, 2, a), ask(0, 3, b)), nil)
	getIs(t, r, a, 6, 0)
	tickIs(t, r, out(ask(1, 4, a), ask(0, 5, b)), nil)
	takeIs(t, r, got(2, 5, b, api.OK, 7, "v"), nil, ends(found(5, b, 2, 7, "v")))
	// In one tick some end and one goes on: messages and outcomes stand each in their order.
	tickIs(t, r, out(ask(1, 6, a)), ends(unanswered(1, b), unanswered(2, a), unanswered(3, b)))
	tickIs(t, r, nil, ends(unanswered(4, a)))
	tickIs(t, r, nil, ends(unanswered(6, a)))
	openIs(t, r, 0)
}

// All of sixty-four, opened in one order and ended in the other.
func TestAllGoOn(t *testing.T) {
	c := round(2, 2, 3, 64, 1)
	key := keyIn(t, c, 0)
	r := made(t, c)
	var keys []string
	var second []api.Msg
	var third []api.Outcome
	for i := range 64 {
		keys = append(keys, key)
		second = append(second, ask(1, i+1, key))
		third = append(third, unanswered(i+1, key))
	}
	r.GetAll(keys...)
	wait(t, r, 2)
	tickIs(t, r, append(second, ping(0, 3)), nil)
	wait(t, r, 2)
	tickIs(t, r, out(ping(1, 6)), third)
	openIs(t, r, 0)
}

// Each get that goes on is a strike of the owner that it asked last, and of no other.
func TestStrikes(t *testing.T) {
	c := round(3, 3, 1, 3, 100)
	r, key := made(t, c), keyIn(t, c, 0)
	getAllIs(t, r, []string{key, key}, 1, ask(0, 1, key), ask(0, 2, key))
	tickIs(t, r, out(ask(1, 1, key), ask(1, 2, key)), nil) // 0 has two
	silentAre(t, r)
	getIs(t, r, key, 3, 0)
	tickIs(t, r, out(ask(2, 1, key), ask(2, 2, key), ask(1, 3, key), ping(0, 2)), nil) // 0 has three, 1 two
	silentAre(t, r, 0)
	tickIs(t, r, out(ask(2, 3, key), ping(0, 3), ping(1, 3)), ends(unanswered(1, key), unanswered(2, key))) // 1 has three, 2 two
	silentAre(t, r, 0, 1)
	tickIs(t, r, out(ping(0, 4), ping(1, 4), ping(2, 4)), ends(unanswered(3, key))) // the last owner's failure counts too
	silentAre(t, r, 0, 1, 2)
}

// The detector's tick comes first: a ban that is made in a tick ends so many ticks behind it, a ban that ends in a tick pings no more.
func TestDetectorsTickComesFirst(t *testing.T) {
	for _, ban := range []int{1, 2, 3} {
		c := round(2, 1, 1, 1, ban)
		r, key := made(t, c), keyIn(t, c, 1)
		getIs(t, r, key, 1, 1)
		tickIs(t, r, out(ping(1, 1)), ends(unanswered(1, key))) // silent till 1 + ban
		for i := 2; i < 1+ban; i++ {
			tickIs(t, r, out(ping(1, i)), nil)
		}
		wait(t, r, 3)
	}
}

// Pings go out at multiples of GetWait alone, whenever the node fell silent: in the very tick too, and for as long as it is silent.
func TestPings(t *testing.T) {
	for _, w := range []int{1, 2, 3, 5} {
		for before := range 6 {
			for _, ban := range []int{1, 2, 7, 20} {
				c := round(2, 1, w, 1, ban)
				r, key := made(t, c), keyIn(t, c, 1)
				wait(t, r, before)
				getIs(t, r, key, 1, 1)
				for time := before + 1; time < before+w+ban+2*w; time++ {
					var sent []api.Msg
					var done []api.Outcome
					if time == before+w {
						done = ends(unanswered(1, key))
					}
					if time >= before+w && time < before+w+ban && time%w == 0 {
						sent = out(ping(1, time))
					}
					tickIs(t, r, sent, done)
				}
			}
		}
	}
}

// By rising numbers, all that are silent and no other; a sign of life stops it.
func TestPingsOfSeveral(t *testing.T) {
	c := round(6, 1, 10, 1, 1000)
	r := hush(t, c, []int{5}, []int{3, 1}, []int{0})
	is(t, "the time", r.now, 12)
	openIs(t, r, 0)
	wait(t, r, 7)
	tickIs(t, r, out(ping(0, 20), ping(1, 20), ping(3, 20), ping(5, 20)), nil)
	takeIs(t, r, pong(3, 20), nil, nil)
	wait(t, r, 9)
	tickIs(t, r, out(ping(0, 30), ping(1, 30), ping(5, 30)), nil)
	takeIs(t, r, got(0, 4, "none of these", api.ErrEmpty, 0, ""), nil, nil)
	wait(t, r, 9)
	tickIs(t, r, out(ping(1, 40), ping(5, 40)), nil)
	takeIs(t, r, pong(5, 40), nil, nil)
	takeIs(t, r, pong(1, 40), nil, nil)
	wait(t, r, 30)
}

// A node on probation is asked as others are; its next failure makes it silent again.
func TestProbation(t *testing.T) {
	c := round(2, 2, 1, 2, 3)
	r, key := made(t, c), keyIn(t, c, 0)
	for i := range 2 {
		getIs(t, r, key, i+1, 0)
		r.Tick()
		takeIs(t, r, got(1, i+1, key, api.OK, 7, ""), nil, ends(found(i+1, key, 1, 7, "")))
	}
	silentAre(t, r, 0) // from 2 till 5
	tickIs(t, r, out(ping(0, 3)), nil)
	tickIs(t, r, out(ping(0, 4)), nil)
	tickIs(t, r, nil, nil)
	getIs(t, r, key, 3, 0)
	tickIs(t, r, out(ask(1, 3, key), ping(0, 6)), nil)
	silentAre(t, r, 0)
}

// Messages of gets stand ahead of the pings of the same tick; a Bad within the tick counts for the pings of it, not for the rows of gets that are open.
func TestMessagesAheadOfPings(t *testing.T) {
	c := round(4, 4, 2, 1, 100)
	r, a, b := made(t, c), keyIn(t, c, 3), keyIn(t, c, 0)
	getAllIs(t, r, []string{a, b}, 1, ask(3, 1, a), ask(0, 2, b))
	wait(t, r, 1)
	tickIs(t, r, out(ask(0, 1, a), ask(1, 2, b), ping(0, 2), ping(3, 2)), nil)
	wait(t, r, 1)
	tickIs(t, r, out(ask(1, 1, a), ask(2, 2, b), ping(0, 4), ping(1, 4), ping(3, 4)), nil)
}

// The time of a ping is that of the router, far on too.
func TestTimeGoesOn(t *testing.T) {
	c := round(1, 1, 3, 1, 1)
	r := made(t, c)
	for range 100000 {
		if list, over, e := r.Tick(); len(list) != 0 || len(over) != 0 || e != api.OK {
			t.Fatalf("Tick = %v, %v, %d", list, over, e)
		}
	}
	getIs(t, r, "k", 1, 0)
	wait(t, r, 2)
	tickIs(t, r, nil, ends(unanswered(1, "k"))) // 100003 is no multiple of 3
	getIs(t, r, "k", 2, 0)
	getIs(t, r, "k", 3, 0)
	wait(t, r, 2)
	tickIs(t, r, nil, ends(unanswered(2, "k"), unanswered(3, "k")))
	wait(t, r, 2)
	getIs(t, r, "k", 4, 0)
	wait(t, r, 2)
	list, over, _ := r.Tick()
	is(t, "the time", r.now, 100011)
	if !slices.Equal(list, out(ping(0, 100011))) || !slices.Equal(over, ends(unanswered(4, "k"))) {
		t.Errorf("Tick = %v, %v", list, over)
	}
}
