package export

import (
	"testing"

	"granary/api"
)

// P21.4, P21.6

// Nobody answers: each owner of each partition is asked once, GetWait ticks apart, and just behind P x Replicas x GetWait ticks the export has ended.
func TestNobodyAnswers(t *testing.T) {
	for _, getWait := range []int{1, 2, 3, 7, 1024} {
		for _, replicas := range []int{1, 2, 3} {
			c := pace(getWait)
			c.Replicas = replicas
			x := made(t, c)
			list, e := x.Begin(7)
			asked := 0
			for tick := 1; tick <= 4*replicas*getWait; tick++ {
				is(t, "the call", e, api.OK)
				is(t, "Busy", x.Busy(), true)
				is(t, "a question", len(list) == 1, (tick-1)%getWait == 0)
				asked += len(list)
				list, e = x.Tick()
			}
			is(t, "questions behind the end", len(list), 0)
			is(t, "questions", asked, 4*replicas)
			reportIs(t, x, one, nil, 0, 1, 2, 3)
		}
	}
	for _, c := range []api.Cluster{cluster(1, 1, []int{0}), cluster(1, 5, nil, upto(64)), round(16, 16, 2)} {
		x := made(t, c)
		x.Begin(7)
		ticks := fuse(0)
		for ; x.Busy(); ticks.burn(t) {
			x.Tick()
		}
		parts := len(x.rows)
		is(t, "ticks", int(ticks), parts*c.Replicas*c.GetWait)
		reportIs(t, x, one, nil, upto(parts)...)
	}
}

// A question has GetWait ticks from when it was sent, whatever sent it and however long the one ahead of it had waited.
func TestEachQuestionHasItsTime(t *testing.T) {
	for _, getWait := range []int{1, 2, 3, 5} {
		for ahead := range getWait {
			for _, how := range []string{"a pair", "the end", "an error", "silence", "Begin"} {
				x := made(t, pace(getWait))
				wait(t, x, ahead)
				begins(t, x, one, 0)
				wait(t, x, ahead)
				node, part, k, next := 0, 0, 0, one.ask(1, 0, 0)
				switch how {
				case "a pair":
					takeIs(t, x, one.give(0, 0, 0, abc), one.ask(0, 0, 1))
					k, next = 1, one.ask(1, 0, 1)
				case "the end":
					takeIs(t, x, one.end(0, 0, 0), one.ask(1, 1, 0))
					node, part, next = 1, 1, one.ask(0, 1, 0)
				case "an error":
					takeIs(t, x, one.no(0, 0, 0, api.ErrOff), one.ask(1, 0, 0))
					node, next = 1, one.ask(1, 1, 0)
				case "silence":
					wait(t, x, getWait-1-ahead)
					tickIs(t, x, one.ask(1, 0, 0))
					node, next = 1, one.ask(1, 1, 0)
				case "Begin":
					wait(t, x, getWait-1-ahead)
					tickIs(t, x, next)
					node, next = 1, one.ask(1, 1, 0)
				}
				wait(t, x, getWait-1)
				stays(t, x, func() { takeIs(t, x, one.give(node, part, k+1, abc)) }) // what is no answer does not give it more time
				tickIs(t, x, next)
				if t.Failed() {
					t.Fatalf("GetWait %d, %s behind %d ticks", getWait, how, ahead)
				}
			}
		}
	}
}

// An owner may answer up to the tick in which it is left, and not in it.
func TestAnswersInTime(t *testing.T) {
	for _, getWait := range []int{1, 2, 4} {
		for ticks := range getWait + 1 {
			x := made(t, pace(getWait))
			begins(t, x, one, 0)
			for range ticks {
				x.Tick()
			}
			if ticks == getWait {
				stays(t, x, func() { takeIs(t, x, one.give(0, 0, 0, abc)) })
				takeIs(t, x, one.give(1, 0, 0, abc), one.ask(1, 0, 1))
			} else {
				stays(t, x, func() { takeIs(t, x, one.give(1, 0, 0, abc)) })
				takeIs(t, x, one.give(0, 0, 0, abc), one.ask(0, 0, 1))
			}
		}
	}
}

// Ticks with no export only let the time go by.
func TestTicksBetweenExports(t *testing.T) {
	x := made(t, east())
	wait(t, x, 20)
	noReport(t, x, api.ErrIdle)
	for job := 1; job <= 5; job++ {
		r := run{job, 7}
		begins(t, x, r, 0)
		whole(t, x, r, 0, 0, job, r.ask(1, 1, 0))
		tickIs(t, x)
		whole(t, x, r, 1, 1, 0, r.ask(2, 2, 0))
		tickIs(t, x)
		tickIs(t, x, r.ask(0, 2, 0))
		whole(t, x, r, 0, 2, 1, r.ask(2, 3, 0))
		tickIs(t, x)
		whole(t, x, r, 2, 3, 0)
		for range 3 * job {
			tickIs(t, x)
			reportIs(t, x, r, append(crop(0, job), crop(2, 1)...))
		}
	}
}

// The slowest export: each owner answers at the last moment, the most pairs are read, and then all owners are left.
func TestTheSlowestExport(t *testing.T) {
	for _, getWait := range []int{1, 2, 3} {
		c := pace(getWait)
		x := made(t, c)
		begins(t, x, one, 0)
		ticks := 0
		tick := func(n int, want ...api.Msg) {
			t.Helper()
			wait(t, x, n-1)
			tickIs(t, x, want...)
			ticks += n
		}
		for part, row := range eastRows() {
			for k := range 512 {
				wait(t, x, getWait-1)
				ticks += getWait - 1
				takeIs(t, x, one.give(row[0], part, k, at(part, k)), one.ask(row[0], part, k+1))
			}
			tick(getWait, one.ask(row[1], part, 512))
			if part < 3 {
				tick(getWait, one.ask(eastRows()[part+1][0], part+1, 0))
			} else {
				tick(getWait)
			}
		}
		reportIs(t, x, one, nil, 0, 1, 2, 3)
		if most := 4 * (512 + 2) * getWait; ticks > most {
			t.Errorf("%d ticks, at most %d", ticks, most)
		}
	}
}

// However it goes on: an export has ended behind P x (MaxPairs + Replicas) x GetWait ticks, and behind P x Replicas x GetWait ticks in which nothing comes.
func TestItEnds(t *testing.T) {
	lot := dice(216)
	for range 300 {
		nodes := 1 + lot.roll(6)
		c := round(nodes, 1+lot.roll(nodes), 1+lot.roll(4))
		x := made(t, c)
		list, _ := x.Begin(7)
		now := list[0]
		ticks, rest, quiet := 0, 0, lot.roll(400)
		rarely := 1 + lot.roll(3)
		for f := fuse(0); x.Busy(); f.burn(t) {
			if int(f) >= quiet {
				rest++
			}
			if int(f) >= quiet || lot.roll(rarely) > 0 {
				list, _ = x.Tick()
				ticks++
			} else {
				m := one.no(now.To, now.Seq, now.Prev, oneOf(&lot, api.OK, api.OK, api.OK, api.OK, api.OK, api.ErrEnd, api.ErrAbsent))
				list, _ = x.Take(m)
			}
			if len(list) == 1 {
				now = list[0]
			}
		}
		if most := nodes * (512 + c.Replicas) * c.GetWait; ticks > most {
			t.Fatalf("%d ticks, at most %d", ticks, most)
		}
		if most := nodes * c.Replicas * c.GetWait; rest > most {
			t.Fatalf("%d ticks in which nothing came, at most %d", rest, most)
		}
	}
}
