package steward

import (
	"fmt"
	"slices"
	"strings"
	"testing"

	"granary/api"
)

// station is a place that a steward may be at.
type station struct {
	name               string
	phase              string // "": no job is going on
	job, kind, version int    // of the job that is going on
	ended              int    // the number of the job that ended last since Boot
	next               int    // the number that the next job would have
	at                 func(t *testing.T, c api.Cluster) *bench
}

func inFetch(t *testing.T, c api.Cluster) *bench {
	t.Helper()
	b := booted(t, c, "")
	b.beginIs(t, 1, 7, 1)
	return b
}

func inSwap(t *testing.T, c api.Cluster) *bench {
	t.Helper()
	b := inFetch(t, c)
	list, e := b.answered(t, fetch, 1, 7)
	sent(t, "the last Fetched", list, e, messages(swap, b.n, 1, 7))
	return b
}

func inBack(t *testing.T, c api.Cluster) *bench {
	t.Helper()
	b := inSwap(t, c)
	b.takeIs(t, reply(swap, b.n-1, 1, 3, api.ErrAbsent), messages(back, b.n, 1, 0))
	return b
}

func inLook(t *testing.T, c api.Cluster) *bench {
	t.Helper()
	b := booted(t, c, "")
	b.beginIs(t, 3, 0, 1)
	return b
}

func inSwapOfBack(t *testing.T, c api.Cluster) *bench {
	t.Helper()
	b := booted(t, c, "")
	b.beginIs(t, 2, 4, 1)
	return b
}

func inBackOfBack(t *testing.T, c api.Cluster) *bench {
	t.Helper()
	b := inSwapOfBack(t, c)
	b.stopIs(t, messages(back, b.n, 1, 0))
	return b
}

// resumed is behind a Boot with a log.
func resumed(number, kind, version, outcome int) func(t *testing.T, c api.Cluster) *bench {
	return func(t *testing.T, c api.Cluster) *bench {
		t.Helper()
		return booted(t, c, logText(number, kind, version, outcome))
	}
}

func hasSucceeded(t *testing.T, c api.Cluster) *bench {
	t.Helper()
	b := inSwap(t, c)
	b.ends(t, swap, 1, 7)
	b.reportIs(t, 1, 1, 7, api.Succeeded, each(b.n, 7))
	return b
}

func hasRestored(t *testing.T, c api.Cluster) *bench {
	t.Helper()
	b := inBackOfBack(t, c)
	b.ends(t, back, 1, 9)
	b.reportIs(t, 1, 2, 4, api.Restored, each(b.n, 9))
	return b
}

func isIncomplete(t *testing.T, c api.Cluster) *bench {
	t.Helper()
	b := inBackOfBack(t, c)
	for range c.Resend * c.Limit {
		_, e := b.Tick()
		done(t, e)
	}
	b.reportIs(t, 1, 2, 4, api.Incomplete, each(b.n, -1), upto(b.n)...)
	return b
}

func hasLooked(t *testing.T, c api.Cluster) *bench {
	t.Helper()
	b := inLook(t, c)
	b.ends(t, look, 1, 9)
	b.reportIs(t, 1, 3, 0, api.Succeeded, each(b.n, 9))
	return b
}

// behind is a place behind a job that has ended: the job there has the number 2.
func behind(kind, version int) func(t *testing.T, c api.Cluster) *bench {
	return func(t *testing.T, c api.Cluster) *bench {
		t.Helper()
		b := hasRestored(t, c)
		b.beginIs(t, kind, version, 2)
		return b
	}
}

func stations() []station {
	return []station{
		{"new", "", 0, 0, 0, 0, 1, func(t *testing.T, c api.Cluster) *bench { return booted(t, c, "") }},
		{"resumed, nothing open", "", 0, 0, 0, 0, 6, resumed(5, 1, 7, 1)},
		{"resumed behind a look", "", 0, 0, 0, 0, 6, resumed(5, 3, 0, 3)},
		{"fetch", fetch, 1, 1, 7, 0, 2, inFetch},
		{"swap", swap, 1, 1, 7, 0, 2, inSwap},
		{"back", back, 1, 1, 7, 0, 2, inBack},
		{"look", look, 1, 3, 0, 0, 2, inLook},
		{"swap of a JobBack", swap, 1, 2, 4, 0, 2, inSwapOfBack},
		{"back of a JobBack", back, 1, 2, 4, 0, 2, inBackOfBack},
		{"back, resumed", back, 5, 1, 7, 0, 6, resumed(5, 1, 7, 0)},
		{"back of a JobBack, resumed", back, 5, 2, 4, 0, 6, resumed(5, 2, 4, 0)},
		{"succeeded", "", 0, 0, 0, 1, 2, hasSucceeded},
		{"restored", "", 0, 0, 0, 1, 2, hasRestored},
		{"incomplete", "", 0, 0, 0, 1, 2, isIncomplete},
		{"looked", "", 0, 0, 0, 1, 2, hasLooked},
		{"fetch of the second job", fetch, 2, 1, 7, 1, 3, behind(1, 7)},
		{"swap of the second job", swap, 2, 2, 7, 1, 3, behind(2, 7)},
		{"look of the second job", look, 2, 3, 0, 1, 3, behind(3, 0)},
	}
}

// going are the stations at which a job is going on.
func going() []station {
	return slices.DeleteFunc(stations(), func(s station) bool { return s.phase == "" })
}

// idle are those at which none is.
func idle() []station {
	return slices.DeleteFunc(stations(), func(s station) bool { return s.phase != "" })
}

func (s station) answer(node int, code api.Errno) api.Msg {
	return reply(s.phase, node, s.job, s.version, code)
}

// story is all that comes of a steward from here on, if no node answers, and what its disk has then: two that are at the same place tell the same.
func (b *bench) story(t *testing.T) string {
	t.Helper()
	var text strings.Builder
	tell := func(x ...any) { fmt.Fprintln(&text, x...) }
	state := func() {
		r, e := b.Report()
		tell("up", b.Up(), "busy", b.Busy(), "report", r, e, "disk", b.d.Dump(), b.d.Pending(), b.d.Down())
	}
	state()
	for i := 1; b.Busy(); i++ {
		list, e := b.Tick()
		tell(i, list, e)
		if i > 1000 {
			t.Fatalf("it does not end: %s", text.String())
		}
	}
	state()
	list, e := b.Begin(api.JobBack, 3)
	tell(list, e)
	state()
	tell(b.Halt())
	list, e = b.Boot()
	tell(list, e)
	state()
	return text.String()
}

// unmoved holds that a steward is still where the station is.
func (s station) unmoved(t *testing.T, what string, b *bench) {
	t.Helper()
	is(t, s.name+": "+what, b.story(t), s.at(t, b.c).story(t))
}
