package ring

import (
	"fmt"
	"reflect"
	"slices"
	"strings"
	"testing"

	"granary/api"
)

const (
	mostInt  = int(^uint(0) >> 1)
	leastInt = -mostInt - 1

	eastText = `store east
replicas 2
width 1
chunks 2
retain 2
block 64
rate 64
per 1
burst 64
tries 3
base 1
most 8
quota 100000
room 100000
depot 100000
resend 2
limit 3
patience 50
getwait 2
strikes 2
ban 10
home 0
node 0 zone 0 parts 0 2
node 1 zone 0 parts 1
node 2 zone 1 parts 3
`
)

// limits is the chapter's table of the settings.
var limits = []struct {
	word, field     string
	least, greatest int
}{
	{"replicas", "Replicas", 1, 16},
	{"width", "Width", 1, 16},
	{"chunks", "Chunks", 1, 16},
	{"retain", "Retain", 1, 8},
	{"block", "Block", 1, 4096},
	{"rate", "Rate", 1, 65536},
	{"per", "Per", 1, 1024},
	{"burst", "Burst", 1, 65536},
	{"tries", "Tries", 1, 64},
	{"base", "Base", 1, 1024},
	{"most", "Most", 1, 1024},
	{"quota", "Quota", 1, 1073741824},
	{"room", "Room", 1, 1073741824},
	{"depot", "Depot", 1, 1073741824},
	{"resend", "Resend", 1, 1024},
	{"limit", "Limit", 1, 64},
	{"patience", "Patience", 1, 65536},
	{"getwait", "GetWait", 1, 1024},
	{"strikes", "Strikes", 1, 64},
	{"ban", "Ban", 1, 1024},
	{"home", "Home", 0, 7},
}

// east is the chapter's cluster E.
func east() api.Cluster {
	return api.Cluster{
		Store: "east", Replicas: 2, Width: 1, Chunks: 2, Retain: 2,
		Block: 64, Rate: 64, Per: 1, Burst: 64, Tries: 3, Base: 1, Most: 8, Quota: 100000,
		Room: 100000, Depot: 100000, Resend: 2, Limit: 3, Patience: 50, GetWait: 2, Strikes: 2, Ban: 10, Home: 0,
		Nodes: []api.NodeDef{{Zone: 0, Parts: []int{0, 2}}, {Zone: 0, Parts: []int{1}}, {Zone: 1, Parts: []int{3}}},
	}
}

// wide is a cluster of 16 nodes with one partition each, in which every setting may be anything within its limits.
func wide() api.Cluster {
	c := east()
	c.Replicas, c.Chunks, c.Block, c.Burst, c.Base, c.Most = 1, 1, 1, 65536, 1, 1024
	c.Nodes = dealt(16, 16)
	return c
}

// dealt is so many partitions, dealt to so many nodes in turn.
func dealt(parts, nodes int) []api.NodeDef {
	out := make([]api.NodeDef, nodes)
	for p := range parts {
		out[p%nodes].Parts = append(out[p%nodes].Parts, p)
	}
	return out
}

func get(c api.Cluster, field string) int {
	return int(reflect.ValueOf(c).FieldByName(field).Int())
}

// with is a cluster in which a setting's field is this number.
func with(c api.Cluster, field string, n int) api.Cluster {
	reflect.ValueOf(&c).Elem().FieldByName(field).SetInt(int64(n))
	return c
}

// lists is a cluster whose nodes have these lists.
func lists(c api.Cluster, all ...[]int) api.Cluster {
	c.Nodes = nil
	for _, parts := range all {
		c.Nodes = append(c.Nodes, api.NodeDef{Parts: parts})
	}
	return c
}

func eastLines() []string { return strings.Split(strings.TrimSuffix(eastText, "\n"), "\n") }

func joined(lines []string) string { return strings.Join(lines, "\n") + "\n" }

// line is E's text in which the line of this number (from 1 on) is another one, or more of them, or none.
func line(number int, others ...string) string {
	return joined(slices.Replace(eastLines(), number-1, number, others...))
}

// same tells whether two clusters are the same, lists that are nil or empty aside.
func same(a, b api.Cluster) bool {
	return fmt.Sprintf("%+v", a) == fmt.Sprintf("%+v", b)
}

func short(text string) string {
	if len(text) > 700 {
		return fmt.Sprintf("%q.. (%d bytes)", text[:600], len(text))
	}
	return fmt.Sprintf("%q", text)
}

func is[T comparable](t *testing.T, what string, got, want T) {
	t.Helper()
	if got != want {
		t.Errorf("%s: %v, want %v", what, got, want)
	}
}

func checks(t *testing.T, c api.Cluster, errno api.Errno) {
	t.Helper()
	if e := Check(c); e != errno {
		t.Errorf("Check(%+v) = %d, want %d", c, e, errno)
	}
}

// reads parses a text that is taken.
func reads(t *testing.T, text string, want api.Cluster) {
	t.Helper()
	if c, e, at := Parse(text); !same(c, want) || e != api.OK || at != 0 {
		t.Errorf("Parse(%s) = %+v, %d, %d, want %+v", short(text), c, e, at, want)
	}
}

// refuses parses a text that is not taken.
func refuses(t *testing.T, text string, errno api.Errno, number int) {
	t.Helper()
	if c, e, at := Parse(text); !same(c, api.Cluster{}) || e != errno || at != number {
		t.Errorf("Parse(%s) = %+v, %d, line %d, want %d, line %d", short(text), c, e, at, errno, number)
	}
}

func prints(t *testing.T, c api.Cluster, want string, errno api.Errno) {
	t.Helper()
	if text, e := Print(c); text != want || e != errno {
		t.Errorf("Print(%+v) = %s, %d, want %s, %d", c, short(text), e, short(want), errno)
	}
}

func walks(t *testing.T, c api.Cluster, part int, errno api.Errno, want ...int) {
	t.Helper()
	if got, e := Walk(c, part); !slices.Equal(got, want) || e != errno {
		t.Errorf("Walk(%+v, %d) = %v, %d, want %v, %d", c, part, got, e, want, errno)
	}
}

func owns(t *testing.T, c api.Cluster, part int, errno api.Errno, want ...int) {
	t.Helper()
	if got, e := Owners(c, part); !slices.Equal(got, want) || e != errno {
		t.Errorf("Owners(%+v, %d) = %v, %d, want %v, %d", c, part, got, e, want, errno)
	}
}

func locates(t *testing.T, c api.Cluster, key string, want api.Place, errno api.Errno) {
	t.Helper()
	if got, e := Locate(c, key); got != want || e != errno {
		t.Errorf("Locate(%+v, %s) = %+v, %d, want %+v, %d", c, short(key), got, e, want, errno)
	}
}

func holds(t *testing.T, c api.Cluster, node int, errno api.Errno, want ...api.Slot) {
	t.Helper()
	if got, e := Holds(c, node); !slices.Equal(got, want) || e != errno {
		t.Errorf("Holds(%+v, %d) = %v, %d, want %v, %d", c, node, got, e, want, errno)
	}
}

func has(t *testing.T, c api.Cluster, node int, errno api.Errno, want ...string) {
	t.Helper()
	if got, e := Files(c, node); !slices.Equal(got, want) || e != errno {
		t.Errorf("Files(%+v, %d) = %v, %d, want %v, %d", c, node, got, e, want, errno)
	}
}

func named(t *testing.T, f api.File, want string, errno api.Errno) {
	t.Helper()
	if got, e := FileName(f); got != want || e != errno {
		t.Errorf("FileName(%+v) = %q, %d, want %q, %d", f, got, e, want, errno)
	}
}

func readsName(t *testing.T, name string, want api.File, errno api.Errno) {
	t.Helper()
	if got, e := ReadName(name); got != want || e != errno {
		t.Errorf("ReadName(%s) = %+v, %d, want %+v, %d", short(name), got, e, want, errno)
	}
}

// allTell asks every call for what it tells of a cluster that is not valid, with an argument that is wrong too.
func allTell(t *testing.T, c api.Cluster, errno api.Errno) {
	t.Helper()
	checks(t, c, errno)
	prints(t, c, "", errno)
	for _, n := range []int{0, -1} {
		walks(t, c, n, errno)
		owns(t, c, n, errno)
		holds(t, c, n, errno)
		has(t, c, n, errno)
	}
	locates(t, c, "abc", api.Place{}, errno)
	locates(t, c, "", api.Place{}, errno)
}

// dice are numbers that are the same in every run.
type dice uint64

func (d *dice) roll(n int) int {
	*d = *d*6364136223846793005 + 1442695040888963407
	return int(uint64(*d)>>33) % n
}

func (d *dice) text(letters string, n int) string {
	out := make([]byte, n)
	for i := range out {
		out[i] = letters[d.roll(len(letters))]
	}
	return string(out)
}
