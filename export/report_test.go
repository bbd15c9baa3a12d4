package export

import (
	"testing"

	"granary/api"
)

// P21.5

// The report is of the export that ended last: none ahead of the first end, the first one's during the second.
func TestReports(t *testing.T) {
	x := made(t, east())
	none := func() {
		t.Helper()
		noReport(t, x, api.ErrIdle)
	}
	none()
	begins(t, x, one, 0)
	none()
	beginFails(t, x, 8, api.ErrBusy)
	tickIs(t, x)
	none()
	whole(t, x, one, 0, 0, 2, one.ask(1, 1, 0))
	none()
	takeIs(t, x, one.no(1, 1, 0, api.ErrAbsent), one.ask(0, 1, 0))
	takeIs(t, x, one.no(0, 1, 0, api.ErrAbsent), one.ask(2, 2, 0))
	none()
	whole(t, x, one, 2, 2, 0, one.ask(2, 3, 0))
	reads(t, x, one, 2, 3, 0, 1)
	none()
	takeIs(t, x, one.end(2, 3, 1))
	first := append(crop(0, 2), crop(3, 1)...)
	for range 3 {
		reportIs(t, x, one, first, 1)
		beginFails(t, x, 0, api.ErrVersion)
		tickIs(t, x)
		takeIs(t, x, one.end(2, 3, 1))
	}

	r := run{2, 8}
	still := func() {
		t.Helper()
		is(t, "Busy", x.Busy(), true)
		toldIs(t, x, one, first, 1)
	}
	begins(t, x, r, 0)
	still()
	tickIs(t, x)
	still()
	takeIs(t, x, r.give(0, 0, 0, abc), r.ask(0, 0, 1))
	still()
	takeIs(t, x, r.no(0, 0, 1, api.ErrDown), r.ask(1, 0, 1))
	takeIs(t, x, r.no(1, 0, 1, api.ErrDown), r.ask(1, 1, 0))
	still()
	whole(t, x, r, 1, 1, 4, r.ask(2, 2, 0))
	still()
	takeIs(t, x, r.end(2, 2, 0), r.ask(2, 3, 0))
	still()
	takeIs(t, x, r.end(2, 3, 0))
	reportIs(t, x, r, crop(1, 4), 0)

	begins(t, x, run{3, 9}, 0)
	toldIs(t, x, r, crop(1, 4), 0)
	idles(t, x)
	reportIs(t, x, run{3, 9}, nil, 0, 1, 2, 3)
}

// Pairs stand by rising partitions, in the order in which they were read, whatever their keys are.
func TestPairsAreNotSorted(t *testing.T) {
	x := begun(t)
	rows := [][]api.Pair{
		{{Key: "z", Value: "1"}, {Key: "a", Value: "2"}, {Key: "m", Value: "3"}},
		{{Key: "b", Value: "4"}, {Key: "a", Value: "2"}},
		{},
		{{Key: "a", Value: "5"}, {Key: "A", Value: "6"}, {Key: "z", Value: "0"}},
	}
	var want []api.Pair
	for part, list := range rows {
		node := eastRows()[part][0]
		for k, p := range list {
			takeIs(t, x, one.give(node, part, k, p), one.ask(node, part, k+1))
		}
		var next []api.Msg
		if part < 3 {
			next = []api.Msg{one.ask(eastRows()[part+1][0], part+1, 0)}
		}
		takeIs(t, x, one.end(node, part, len(list)), next...)
		want = append(want, list...)
	}
	reportIs(t, x, one, want)
}

// Busy and Report change nothing.
func TestAskingChangesNothing(t *testing.T) {
	for _, x := range []*Export{made(t, east()), begun(t), midst(t), fourth(t)} {
		stays(t, x, func() {
			x.Busy()
			x.Report()
		})
	}
}

// What an export has dropped or told is not kept beside its report.
func TestWorkIsForgotten(t *testing.T) {
	x := begun(t)
	reads(t, x, one, 0, 0, 0, 3)
	is(t, "read", len(x.job.read), 3)
	takeIs(t, x, one.no(0, 0, 3, api.ErrOff), one.ask(1, 0, 3))
	is(t, "read", len(x.job.read), 3)
	takeIs(t, x, one.no(1, 0, 3, api.ErrOff), one.ask(1, 1, 0))
	is(t, "read", cap(x.job.read), 0)
	whole(t, x, one, 1, 1, 2, one.ask(2, 2, 0))
	is(t, "read", cap(x.job.read), 0)
	idles(t, x)
	same(t, "the job", x.job, job{})
	reportIs(t, x, one, crop(1, 2), 0, 2, 3)
}
