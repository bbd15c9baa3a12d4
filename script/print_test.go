package script

import (
	"slices"
	"strings"
	"testing"

	"granary/api"
)

// P18.2

func ticks(n int) []api.Op { return slices.Repeat([]api.Op{{Kind: api.OpTick}}, n) }

func TestPlaysAreWritten(t *testing.T) {
	printsPlay(t, api.Play{}, "steps\n")
	printsPlay(t, api.Play{Ops: []api.Op{}}, "steps\n")
	printsPlay(t, api.Play{Cluster: "store s\n"}, "store s\nsteps\n")
	var ops []api.Op
	text := "store s\nwidth 1\nsteps\n"
	for _, r := range rows() {
		ops = append(ops, r.op)
		text += r.line + "\n"
	}
	printsPlay(t, api.Play{Cluster: "store s\nwidth 1\n", Ops: ops}, text)
	slices.Reverse(ops)
	got, e := Print(api.Play{Ops: ops})
	if lines := strings.Split(got, "\n"); e != api.OK || len(lines) != len(ops)+2 || lines[1] != "export 6" {
		t.Errorf("%q, %d", got, e)
	}
}

func TestDefinitionsThatMayBe(t *testing.T) {
	for _, text := range []string{
		"", "\n", "\n\n\n", "#\n", "a\n", "a\n\n", "\na\n", "# steps\n", "steps \n", " steps\n", "steps\r\n", "\rsteps\n", "stepss\n", "step\n", "Steps\n", "STEPS\n", "steps\t\n", "\x00steps\n", "steps\x00\n", "a steps\n", "steps a\n", "stepssteps\n", "steps steps\n", "#steps\n", "\xff\x00\n", "tick\n", strings.Repeat("x", 300000) + "\n", strings.Repeat("\n", 20000),
	} {
		printsPlay(t, api.Play{Cluster: text}, text+"steps\n")
		printsPlay(t, api.Play{Cluster: text, Ops: ticks(2)}, text+"steps\ntick\ntick\n")
		parses(t, text+"steps\ntick\n", text, ticks(1)...)
	}
}

func TestDefinitionsThatMayNotBe(t *testing.T) {
	for _, text := range []string{
		"a", " ", "#", "\r", "\n ", "a\nb", "\n\na", "steps", "a\nsteps", "steps ", "a\n\r", strings.Repeat("x", 300000),
		"steps\n", "steps\n\n", "\nsteps\n", "a\nsteps\n", "a\nsteps\nb\n", "steps\na\n", "steps\nsteps\n", "# a\n\nsteps\n# b\n", "steps \nsteps\n", "steps\na", "a\nsteps\nb",
	} {
		printPlayFails(t, api.Play{Cluster: text}, api.ErrPrint)
		printPlayFails(t, api.Play{Cluster: text, Ops: ticks(1)}, api.ErrPrint)
	}
}

func TestSoManySteps(t *testing.T) {
	printsPlay(t, api.Play{Ops: ticks(9999)}, "steps\n"+strings.Repeat("tick\n", 9999))
	printsPlay(t, api.Play{Cluster: "a\n", Ops: ticks(10000)}, "a\nsteps\n"+strings.Repeat("tick\n", 10000))
	printPlayFails(t, api.Play{Ops: ticks(10001)}, api.ErrLines)
	printPlayFails(t, api.Play{Ops: ticks(100000)}, api.ErrLines)
}

// The first step that has an error gives the answer.
func TestStepsThatCannotBeWritten(t *testing.T) {
	none, odd, long := api.Op{Kind: 22}, api.Op{Kind: api.OpTick, J: 1}, api.Op{Kind: api.OpGet, Key: strings.Repeat("k", 262140)}
	bad := []struct {
		op   api.Op
		want api.Errno
	}{{none, api.ErrOp}, {odd, api.ErrPrint}, {long, api.ErrLine}}
	for _, a := range bad {
		printPlayFails(t, api.Play{Ops: []api.Op{a.op}}, a.want)
		printPlayFails(t, api.Play{Cluster: "a\n", Ops: append(ticks(3), a.op)}, a.want)
		printPlayFails(t, api.Play{Ops: append(ticks(9999), a.op)}, a.want)
		for _, b := range bad {
			printPlayFails(t, api.Play{Ops: []api.Op{{Kind: api.OpTick}, a.op, {Kind: api.OpTick}, b.op}}, a.want)
		}
		printPlayFails(t, api.Play{Ops: append(ticks(10000), a.op)}, api.ErrLines)
		printPlayFails(t, api.Play{Ops: append([]api.Op{a.op}, ticks(10000)...)}, api.ErrLines)
		printPlayFails(t, api.Play{Cluster: "a", Ops: []api.Op{a.op}}, api.ErrPrint)
		printPlayFails(t, api.Play{Cluster: "steps\n", Ops: []api.Op{a.op}}, api.ErrPrint)
	}
	printPlayFails(t, api.Play{Cluster: "a", Ops: ticks(10001)}, api.ErrPrint)
	printPlayFails(t, api.Play{Cluster: "steps\n", Ops: ticks(10001)}, api.ErrPrint)
}

func TestLongestLinesOfAPlay(t *testing.T) {
	key := strings.Repeat("k", 262139)
	long := api.Op{Kind: api.OpGet, Key: key}
	printsPlay(t, api.Play{Ops: []api.Op{long, {Kind: api.OpTick}, long}}, "steps\nget ="+key+"\ntick\nget ="+key+"\n")
	long.Key += "k"
	printPlayFails(t, api.Play{Ops: []api.Op{{Kind: api.OpTick}, long}}, api.ErrLine)
}
