package script

import (
	"fmt"
	"reflect"
	"strings"
	"sync"
	"testing"

	"granary/api"
)

// P18.7: whose memory is whose; nothing is kept; hard arguments.

// roomy is a list that has room behind its end, in which something stands.
func roomy[T any](behind T, list ...T) []T {
	return append(append(make([]T, 0, len(list)+3), list...), behind, behind, behind)[:len(list)]
}

func whole[T any](list []T) []T { return list[:cap(list)] }

// What is handed in is not changed, nor what stands behind a list's end.
func TestWhatIsHandedInStays(t *testing.T) {
	newPlay := func() api.Play {
		return api.Play{Cluster: "a\n", Ops: roomy(api.Op{Kind: 77, Key: "behind"},
			api.Op{Kind: api.OpBuild, Job: api.Job{Version: 1, Policy: 2, Memory: 3, FanIn: 4}, Pairs: roomy(api.Pair{Key: "behind"}, api.Pair{Key: "k", Value: "v"}, api.Pair{})},
			api.Op{Kind: api.OpGetAll, Keys: roomy("behind", "a", "b")},
			api.Op{Kind: api.OpTurn, Node: 1, Fault: api.Fault{Kind: 3, At: 1, Mask: 2}},
			api.Op{Kind: api.OpCrash, Node: 1, I: 2, J: 3})}
	}
	p, want := newPlay(), newPlay()
	same := func(what string) {
		t.Helper()
		if !reflect.DeepEqual(p.Cluster, want.Cluster) || !reflect.DeepEqual(whole(p.Ops), whole(want.Ops)) || !reflect.DeepEqual(whole(p.Ops[0].Pairs), whole(want.Ops[0].Pairs)) || !reflect.DeepEqual(whole(p.Ops[1].Keys), whole(want.Ops[1].Keys)) {
			t.Errorf("behind %s: %+v", what, p)
		}
	}
	if _, e := Print(p); e != api.OK {
		t.Fatal(e)
	}
	same("Print")
	for _, op := range p.Ops {
		PrintOp(op)
		op.J++
		PrintOp(op)
	}
	same("PrintOp")
	p.Ops[2].Kind, want.Ops[2].Kind = 99, 99
	if _, e := Print(p); e != api.ErrOp {
		t.Fatal(e)
	}
	same("a Print that fails")

	newEvents := func() []api.Event {
		v := fullEvent(7)
		v.Report.Holds, v.Report.Missing = roomy(-9, 1, 2), roomy(-9)
		w := fullEvent(9)
		w.Audited.Differ, w.Audited.Missing = roomy(-9, 5), roomy(-9, 6, 7)
		x := fullEvent(10)
		x.Exported.Pairs, x.Exported.Missing = roomy(api.Pair{Key: "behind"}, api.Pair{Key: "k"}), roomy(-9, 1)
		return roomy(api.Event{Kind: -9}, v, w, x)
	}
	list, all := newEvents(), newEvents()
	Tell(list)
	if !reflect.DeepEqual(whole(list), whole(all)) {
		t.Errorf("behind Tell: %+v", list)
	}
	for i := range list {
		a, b := list[i], all[i]
		if !reflect.DeepEqual(whole(a.Report.Holds), whole(b.Report.Holds)) || !reflect.DeepEqual(whole(a.Report.Missing), whole(b.Report.Missing)) || !reflect.DeepEqual(whole(a.Audited.Differ), whole(b.Audited.Differ)) || !reflect.DeepEqual(whole(a.Audited.Missing), whole(b.Audited.Missing)) || !reflect.DeepEqual(whole(a.Exported.Pairs), whole(b.Exported.Pairs)) || !reflect.DeepEqual(whole(a.Exported.Missing), whole(b.Exported.Missing)) {
			t.Errorf("behind Tell the lists of %d: %+v", i, a)
		}
	}
}

const listsText = "a\nsteps\nbuild 1 2 3 4 a=b c=d e=f\ngetall =a =b =c\nbuild 1 2 3 4 g=h\ngetall =d\nbuild 5 6 7 8\ngetall\nget =k\n"

// Whoever gets a play may write into its lists and append to them: no other list is changed by that, of this answer or of another.
func TestListsOfAPlayAreNew(t *testing.T) {
	fresh := func() api.Play {
		p, err := Parse(listsText)
		if err != nil {
			t.Fatal(err)
		}
		return p
	}
	want, held := fresh(), fresh()
	for i := range want.Ops {
		p := fresh()
		scribble(p.Ops[i].Pairs, api.Pair{Key: "junk", Value: "junk"})
		scribble(p.Ops[i].Keys, "junk")
		for j := range p.Ops {
			if j != i && !sameOp(p.Ops[j], want.Ops[j]) {
				t.Errorf("behind scribbling into step %d the step %d is %+v", i, j, p.Ops[j])
			}
		}
	}
	p := fresh()
	pairs := p.Ops[0].Pairs
	scribble(p.Ops, api.Op{Kind: 77})
	is(t, "a step's pairs behind scribbling over the steps", fmt.Sprint(pairs), "[{a b} {c d} {e f}]")
	if !samePlay(held, want) || !samePlay(fresh(), want) {
		t.Errorf("another answer: %+v", held)
	}
	for i := range cap(p.Ops) - len(p.Ops) {
		is(t, "in the room behind", p.Ops[:cap(p.Ops)][len(p.Ops)+i].Kind, 77)
	}
}

// Nothing is kept: every call answers what it answered first, whatever came between.
func TestNothingIsKept(t *testing.T) {
	all := func() string {
		var out strings.Builder
		for _, r := range rows() {
			line, e := PrintOp(r.op)
			fmt.Fprintln(&out, line, e)
			p, err := Parse("a\nsteps\n" + r.line)
			fmt.Fprintln(&out, p, err)
			text, e := Print(p)
			fmt.Fprintln(&out, text, e)
		}
		for _, text := range []string{"", "steps\nx", "steps\ntick x", "steps\ndrop x", listsText} {
			p, err := Parse(text)
			fmt.Fprintln(&out, p, err)
		}
		for kind := -1; kind < 13; kind++ {
			fmt.Fprint(&out, Tell([]api.Event{fullEvent(kind)}))
		}
		return out.String()
	}
	want := all()
	is(t, "again", all(), want)
	Parse("steps\n" + strings.Repeat("tick\n", 10001))
	PrintOp(api.Op{Kind: api.OpGet, Key: strings.Repeat("\x00", 300000)})
	is(t, "behind calls that fail", all(), want)
	var group sync.WaitGroup
	said := make([]string, 8)
	for i := range said {
		group.Go(func() { said[i] = all() })
	}
	group.Wait()
	for _, text := range said {
		is(t, "beside others", text, want)
	}
}

func TestHardArguments(t *testing.T) {
	numbers := []int{leastInt, leastInt + 1, -65, -1, 0, 1, 21, 22, 64, mostInt - 1, mostInt}
	huge := strings.Repeat("\xff=%\n ", 200000)
	for _, kind := range append(numbers, 2, 3, 4, 5, 6, 7, 8, 9, 10, 11, 12, 13, 14, 15, 16, 17, 18, 19, 20) {
		for _, n := range numbers {
			f := api.Fault{Kind: n, At: n, Mask: n}
			for _, op := range []api.Op{
				{Kind: kind, Node: n}, {Kind: kind, I: n, J: n}, {Kind: kind, Node: n, I: n, J: n, Job: api.Job{Version: n, Policy: n, Memory: n, FanIn: n}, Fault: f, Key: huge, Keys: []string{huge, ""}, Pairs: []api.Pair{{Key: huge}, {}}},
				{Kind: kind, Fault: f}, {Kind: kind, Key: huge}, {Kind: kind, Keys: make([]string, 3)}, {Kind: kind, Pairs: make([]api.Pair, 3)},
			} {
				line, e := PrintOp(op)
				text, code := Print(api.Play{Ops: []api.Op{op}})
				is(t, "Print and PrintOp", code, e)
				is(t, "a line just where it is OK", line != "", e == api.OK)
				is(t, "a text just where it is OK", text != "", e == api.OK)
			}
			Tell([]api.Event{{Kind: kind, Node: n, Code: api.Errno(n), Version: n, M: api.Msg{Kind: n, Key: huge, Value: huge}}})
		}
	}
	for b := range 256 {
		for _, text := range []string{byteText(b), "steps\n" + byteText(b), "steps" + byteText(b), byteText(b) + "steps\n", "steps\nget =" + byteText(b), "steps\nbuild 1 2 3 4 " + byteText(b)} {
			agrees(t, text)
		}
	}
	agrees(t, huge)
	agrees(t, "steps\n"+huge)
	agrees(t, huge+"\nsteps\ntick\n")
	agrees(t, strings.Repeat("steps\n", 1000))
}
