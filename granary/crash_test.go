package granary

import (
	"fmt"
	"testing"

	"granary/api"
)

// P24.8, P24.9: a run in which one disk goes down at each of its acts, one after the other, with each prefix of what was not safe; boots are broken off too.

// story is a run of a machine with one node or two: versions are built, swapped to, gone back from, looked at and dropped. It answers the steps.
func story(t *testing.T, text string) []api.Op {
	t.Helper()
	w := newWitness(t, text, map[string]int{})
	for _, op := range []api.Op{
		built(1, "a=1", "b=2"), {Kind: api.OpSwap, I: 1}, {Kind: api.OpGet, Key: "a"},
		built(2, "a=3", "c=4"), {Kind: api.OpSwap, I: 2}, {Kind: api.OpGet, Key: "b"},
		{Kind: api.OpBack, I: 1}, {Kind: api.OpLook}, {Kind: api.OpPurge, I: 2},
		built(3), {Kind: api.OpSwap, I: 3}, {Kind: api.OpGet, Key: "a"}, {Kind: api.OpSwap, I: 2},
	} {
		w.do(op)
		for w.view.Busy || w.view.Open > 0 {
			round(t, w.do, w.look, nil)
		}
	}
	return w.ops
}

// plot is a place at which a disk goes down in a story, and what becomes of it then.
type plot struct{ disk, acts, keep, torn, again int }

// tellStory does the story till the disk goes down, and then what is to become of it; false: the disk never goes down.
func (w *witness) tellStory(ops []api.Op, p plot) bool {
	w.t.Helper()
	w.do(api.Op{Kind: api.OpFuse, Node: p.disk, I: p.acts})
	at := 0
	for ; at < len(ops) && !w.isDown(p.disk); at++ {
		w.do(ops[at])
	}
	if !w.isDown(p.disk) {
		return false
	}
	crash := api.Op{Kind: api.OpCrash, Node: p.disk, I: p.keep, J: p.torn}
	up := api.Op{Kind: api.OpBoot, Node: p.disk}
	if p.disk == deskNumber {
		up = api.Op{Kind: api.OpRevive}
	}
	if p.disk != depotNumber {
		is(w.t, "a boot of a disk that is down", w.do(up)[0].Code, api.ErrDown)
	}
	w.do(crash)
	if p.disk != depotNumber {
		for range p.again {
			w.do(api.Op{Kind: api.OpFuse, Node: p.disk, I: p.again - 1})
			w.do(up)
			w.do(crash)
		}
		w.do(up)
	}
	for _, op := range ops[at:min(len(ops), at+25)] {
		w.do(op)
	}
	return true
}

func (w *witness) isDown(disk int) bool {
	switch disk {
	case depotNumber:
		return w.depotDown
	case deskNumber:
		return !w.view.Ruling
	}
	return !w.view.Nodes[disk].Up
}

func TestEveryActOfEveryDisk(t *testing.T) {
	t.Parallel()
	count := map[string]int{}
	text := changed(one, "block 100", "tries 2", "retain 1", "resend 2", "limit 2", "quota 5000")
	two := changed(text, "replicas 2", "node 1 zone 0 parts 1")
	lot := dice(77)
	for i, text := range []string{text, two} {
		ops := story(t, text)
		for _, disk := range []int{depotNumber, deskNumber, 0, 1}[:3+i] {
			acts := 0
			for ; ; acts += 1 + i {
				told := false
				for _, keep := range []int{0, 1, 2, 3, 99}[:5-2*i] {
					w := newWitness(t, text, count)
					told = w.tellStory(ops, plot{disk, acts, keep, oneOf(&lot, 0, 1, 9, 999), oneOf(&lot, 0, 0, 1, 2, 3)})
					if !told {
						break
					}
					if acts%3 == 0 {
						w.loads()
					}
					if acts%4 == keep%4 {
						w.quiet(&lot)
						w.orders(api.Op{Kind: api.OpLook}, 4)
					}
				}
				if !told {
					break
				}
			}
			t.Log("disk", disk, "acts", acts)
			count[fmt.Sprint("acts ", min(acts, 10))]++
		}
	}
	came(t, count, "old", "new", "a Begin that was broken off and survived", "a Begin that was broken off", "a job goes on behind a boot", "a job ended without a report", "built behind a crash", "acts 10", "report 1 1", "report 1 2")
	show(t, count)
}
