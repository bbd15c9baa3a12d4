package granary

import (
	"fmt"
	"reflect"
	"slices"
	"strconv"
	"strings"
	"testing"

	"granary/api"
	"granary/frame"
	"granary/ring"
	"granary/script"
)

const (
	mostInt  = int(^uint(0) >> 1)
	leastInt = -mostInt - 1
	last     = 999999 // MaxVersion
)

func is[T comparable](t *testing.T, what string, got, want T) {
	t.Helper()
	if got != want {
		t.Errorf("%s: %v, want %v", what, got, want)
	}
}

func same(t *testing.T, what string, got, want any) {
	t.Helper()
	if !reflect.DeepEqual(got, want) {
		t.Errorf("%s: %+v, want %+v", what, got, want)
	}
}

// looksLike holds two things against each other, where a list that is nil and an empty one are the same.
func looksLike(t *testing.T, what string, got, want any) {
	t.Helper()
	if reflect.DeepEqual(got, want) {
		return
	}
	if a, b := fmt.Sprintf("%+v", got), fmt.Sprintf("%+v", want); a != b {
		t.Fatalf("%s: %.2000s, want %.2000s", what, a, b)
	}
}

// A row of numbers, the same in every run of the tests.
type dice uint64

func (d *dice) roll(n int) int {
	*d = *d*6364136223846793005 + 1442695040888963407
	return int(uint64(*d)>>33) % n
}

// oneOf draws one of these.
func oneOf[T any](lot *dice, these ...T) T { return these[lot.roll(len(these))] }

// scribble writes over a list, and behind its end as far as its memory goes.
func scribble[T any](list []T, with T) {
	all := list[:cap(list)]
	for i := range all {
		all[i] = with
	}
	_ = append(list, with)
}

// Definitions.

// one is the definition ONE of the document's ten examples.
const one = "store s\nreplicas 1\nwidth 1\nchunks 1\nretain 1\nblock 4096\nrate 4096\nper 1\nburst 4096\ntries 1\nbase 1\nmost 1\nquota 1000\nroom 10000\ndepot 10000\nresend 5\nlimit 1\npatience 50\ngetwait 5\nstrikes 1\nban 1\nhome 0\nnode 0 zone 0 parts 0\n"

// changed is a definition with these lines in the place of those that begin with the same word; a node's line comes behind the others.
func changed(text string, lines ...string) string {
	for _, line := range lines {
		word, _, _ := strings.Cut(line, " ")
		var kept []string
		for _, old := range strings.Split(strings.TrimSuffix(text, "\n"), "\n") {
			if word != "node" && strings.HasPrefix(old, word+" ") {
				old = line
			}
			kept = append(kept, old)
		}
		if word == "node" {
			kept = append(kept, line)
		}
		text = strings.Join(kept, "\n") + "\n"
	}
	return text
}

// three is a definition of three nodes and four partitions, each on two nodes.
func three(lines ...string) string {
	text := strings.Replace(one, "node 0 zone 0 parts 0\n", "node 0 zone 0 parts 0 2\nnode 1 zone 0 parts 1\nnode 2 zone 1 parts 3\n", 1)
	text = changed(text, "replicas 2", "retain 2", "block 64", "rate 64", "burst 128", "tries 2", "quota 100000", "room 100000", "depot 100000", "resend 2", "limit 3", "getwait 3", "strikes 2", "ban 4")
	return changed(text, lines...)
}

// clusterOf is what a definition says.
func clusterOf(t *testing.T, text string) api.Cluster {
	t.Helper()
	c, e, line := ring.Parse(text)
	if e != api.OK {
		t.Fatalf("the definition: %d, line %d\n%s", e, line, text)
	}
	return c
}

// Machines.

func newMachine(t *testing.T, text string) *Machine {
	t.Helper()
	m, e := New(text)
	if e != api.OK || m == nil {
		t.Fatalf("New: %v, %d", m, e)
	}
	return m
}

// opsOf are the steps that a text says.
func opsOf(t *testing.T, text string) []api.Op {
	t.Helper()
	p, err := script.Parse("steps\n" + text)
	if err != nil {
		t.Fatalf("%q: %v", text, err)
	}
	return p.Ops
}

// do does the steps of a text, and answers what is told of them.
func do(t *testing.T, m *Machine, text string) string {
	t.Helper()
	log := ""
	for _, op := range opsOf(t, text) {
		log += script.Tell(m.Do(op))
	}
	return log
}

// behind does the steps, which are to be told so.
func behind(t *testing.T, m *Machine, what, text, want string) {
	t.Helper()
	if log := do(t, m, text); log != want {
		t.Errorf("%s: %q tells\n%swant\n%s", what, text, log, want)
	}
}

// state is all that can be seen of a machine.
func state(m *Machine) string {
	v := m.Look()
	text := fmt.Sprintf("%+v", v)
	for n := deskNumber; n < len(v.Nodes); n++ {
		text += fmt.Sprintf("\n%+v", m.Files(n))
	}
	return text
}

// told are the messages of letters.
func told(t *testing.T, letters []api.Letter) []api.Msg {
	t.Helper()
	var list []api.Msg
	for _, l := range letters {
		m, e := frame.Decode(l.Frame)
		if e != api.OK {
			t.Fatalf("letter %d is no frame: %d", l.Id, e)
		}
		if m.From != l.From || m.To != l.To {
			t.Fatalf("letter %+v has the message %+v", l, m)
		}
		list = append(list, m)
	}
	return list
}

// round is what the chapter calls one; nodes that are down have no turns. Letters that are kept back are not delivered in it.
func round(t *testing.T, step func(api.Op) []api.Event, look func() api.View, kept map[int]bool) []api.Event {
	t.Helper()
	list := step(api.Op{Kind: api.OpTick})
	for _, l := range look().Flight {
		at := slices.IndexFunc(look().Flight, func(now api.Letter) bool { return now.Id == l.Id })
		if !kept[l.Id] {
			list = append(list, step(api.Op{Kind: api.OpDeliver, I: at})...)
		}
	}
	for n, v := range look().Nodes {
		if !v.Up {
			continue
		}
		for range v.Inbox + 1 {
			list = append(list, step(api.Op{Kind: api.OpTurn, Node: n})...)
		}
	}
	return list
}

// rounds are so many.
func rounds(t *testing.T, m *Machine, count int) []api.Event {
	t.Helper()
	var list []api.Event
	for range count {
		list = append(list, round(t, m.Do, m.Look, nil)...)
	}
	return list
}

// pairsOf are pairs told as "k=v".
func pairsOf(words ...string) []api.Pair {
	var list []api.Pair
	for _, w := range words {
		key, value, _ := strings.Cut(w, "=")
		list = append(list, api.Pair{Key: key, Value: value})
	}
	return list
}

// built is a step that builds a version.
func built(version int, words ...string) api.Op {
	return api.Op{Kind: api.OpBuild, Job: api.Job{Version: version, Memory: 1000, FanIn: 2}, Pairs: pairsOf(words...)}
}

func digits(n int) string { return strconv.Itoa(n) }
