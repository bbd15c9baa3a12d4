package granary

import (
	"strings"
	"testing"

	"granary/api"
	"granary/script"
)

// P24.5: Play.

func TestPlayRefuses(t *testing.T) {
	long := strings.Repeat("tick\n", 10001)
	for text, want := range map[string]string{
		"":                                  "refused 0 60\n",
		"tick\n":                            "refused 0 60\n",
		one:                                 "refused 0 60\n",
		one + "steps x\n":                   "refused 0 60\n",
		"steps":                             "refused 0 62\n",
		"steps\ntick\n":                     "refused 0 62\n",
		"store s\nstore t\nsteps\n":         "refused 0 61\n",
		changed(one, "width 0") + "steps\n": "refused 0 64\n",
		"steps\ntock\n":                     "refused 2 182\n",
		one + "steps\ntick\n#\n\ntick x\n":  "refused 28 181\n",
		one + "steps\ndeliver 01\n":         "refused 25 180\n",
		one + "steps\n" + long:              "refused 10025 184\n",
		"steps\nget =" + strings.Repeat("k", 262144) + "\n": "refused 2 183\n",
	} {
		is(t, "Play of "+text[:min(len(text), 30)], Play(text), want)
	}
	// Every step's line may be the one that is refused; the definition is looked at behind all of them.
	lines := strings.Split(strings.TrimSuffix(whole, "\n"), "\n")
	for i := range lines {
		bad := append([]string{}, lines...)
		bad[i] += " x"
		e := "181"
		if i == 0 || strings.HasPrefix(lines[i], "turn") {
			e = "180"
		}
		for _, definition := range []string{"", "store\n", one} {
			is(t, "a line that is refused", Play(definition+"steps\n"+strings.Join(bad, "\n")), "refused "+digits(strings.Count(definition, "\n")+2+i)+" "+e+"\n")
		}
	}
}

func TestPlayOfNoSteps(t *testing.T) {
	for _, text := range []string{one + "steps", one + "steps\n", one + "steps\n# nothing\n\n", "# a word\n\n" + one + "steps\n"} {
		is(t, "no steps", Play(text), "node 0 1 0 0 0 0 -\nend 0 0 0\n")
	}
	is(t, "three nodes", Play(three()+"steps\n"), "node 0 1 0 0 0 0 -\nnode 1 1 0 0 0 0 -\nnode 2 1 0 0 0 0 -\nend 0 0 0\n")
}

// The last lines say what one sees.
func TestPlayEnds(t *testing.T) {
	text := changed(three(), "patience 400") + "steps\n"
	is(t, "a node that is down has nothing", Play(text+"crash 1 0 0\nlook\ntick\n"), "> crash 1 0 0\ndown 1\n> look\n> tick\nnode 0 1 0 0 0 0 -\nnode 1 0 0 0 0 0 -\nnode 2 1 0 0 0 0 -\nend 1 3 1\n")
	m := lived(t)
	v := m.Look()
	v.Nodes[1].Up, v.Nodes[1].Has = false, api.State{}
	v.Nodes[2].Has = api.State{Cur: 2, Prev: 1, Epoch: 30, Seq: 2, Have: []int{1, 2, 999999}}
	v.Now, v.Busy = 70, false
	is(t, "the last lines", ending(v), "node 0 1 1 0 1 1 1\nnode 1 0 0 0 0 0 -\nnode 2 1 2 1 30 2 1,2,999999\nend 70 "+digits(len(v.Flight))+" 0\n")
}

// A text of all steps: the log is made of each step's line and what Do tells of it.
func TestPlayOfAllSteps(t *testing.T) {
	steps := whole + "turn 0\ndeliver 0\nget =k\nget =%20\ngetall =k =x =\ngetall\ngetall =k =x\ncopy 0\ndrop 0\ncut 0 65\nheal 0 65\ndeliver 0\nturn 0 lost\nturn 0 trim -1\nturn 0 flip 0 256\nturn 0 forge 9 9\nfuse 0 -1\nfuse -1 99\ncrash 0 1 1\nboot 0\nboot 0\nback 1\nstop\ncrash -2 0 0\nrevive\nlook\naudit 1\nexport 1\npurge 1\npurge 1\ntick\nbuild 2 1 1000 2 %00=%ff k= a=b\nswap 2\n"
	m, want := newMachine(t, one), ""
	kinds := map[int]bool{}
	for _, op := range opsOf(t, steps) {
		kinds[op.Kind] = true
		line, e := script.PrintOp(op)
		is(t, "PrintOp", e, api.OK)
		want += "> " + line + "\n" + script.Tell(m.Do(op))
	}
	is(t, "kinds of steps", len(kinds), 21)
	want += ending(m.Look())
	for _, text := range []string{steps, "# a word\n" + strings.ReplaceAll(steps, "\n", "\n\n# another\n"), strings.TrimSuffix(steps, "\n")} {
		is(t, "the log", Play(one+"steps\n"+text), want)
	}
}
