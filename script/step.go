package script

import (
	"math"
	"slices"
	"strings"

	"granary/api"
)

// step is a row of the table of steps: its word, how many words stand behind that, the function that reads them into a step's fields, and the one that writes them.
// What is written is taken out of the step: what is left there is what the line does not name.
type step struct {
	word        string
	kind        int
	least, most int
	read        func(words []string, op *api.Op) api.Errno
	write       func(op *api.Op, w *writer)
}

// steps is the table. What is read and what is written both go by it, so that they cannot part.
func steps() []step {
	return []step{
		{"build", api.OpBuild, 4, math.MaxInt, readBuild, writeBuild},
		{"tick", api.OpTick, 0, 0, reads(nothing), writes(nothing)},
		{"turn", api.OpTurn, 1, 4, readTurn, writeTurn},
		{"deliver", api.OpDeliver, 1, 1, reads(first), writes(first)},
		{"drop", api.OpDrop, 1, 1, reads(first), writes(first)},
		{"copy", api.OpCopy, 1, 1, reads(first), writes(first)},
		{"cut", api.OpCut, 2, 2, reads(both), writes(both)},
		{"heal", api.OpHeal, 2, 2, reads(both), writes(both)},
		{"fuse", api.OpFuse, 2, 2, reads(nodeAndFirst), writes(nodeAndFirst)},
		{"crash", api.OpCrash, 3, 3, reads(nodeAndBoth), writes(nodeAndBoth)},
		{"boot", api.OpBoot, 1, 1, reads(node), writes(node)},
		{"swap", api.OpSwap, 1, 1, reads(first), writes(first)},
		{"back", api.OpBack, 1, 1, reads(first), writes(first)},
		{"stop", api.OpStop, 0, 0, reads(nothing), writes(nothing)},
		{"revive", api.OpRevive, 0, 0, reads(nothing), writes(nothing)},
		{"get", api.OpGet, 1, 1, readGet, writeGet},
		{"getall", api.OpGetAll, 0, math.MaxInt, readGetAll, writeGetAll},
		{"purge", api.OpPurge, 1, 1, reads(first), writes(first)},
		{"audit", api.OpAudit, 1, 1, reads(first), writes(first)},
		{"look", api.OpLook, 0, 0, reads(nothing), writes(nothing)},
		{"export", api.OpExport, 1, 1, reads(first), writes(first)},
	}
}

// lineOf writes a step by the table.
func lineOf(op api.Op, table []step) (string, api.Errno) {
	i := slices.IndexFunc(table, func(s step) bool { return s.kind == op.Kind })
	if i < 0 {
		return "", api.ErrOp
	}
	w := writer{room: mostLine}
	w.put(table[i].word)
	table[i].write(&op, &w)
	if !isBare(op) {
		return "", api.ErrPrint
	}
	if w.room < 0 {
		return "", api.ErrLine
	}
	return w.text.String(), api.OK
}

// isBare tells whether nothing is left in a step beside its kind.
func isBare(op api.Op) bool {
	return op.Node == 0 && op.I == 0 && op.J == 0 && op.Job == api.Job{} && len(op.Pairs) == 0 && op.Fault == api.Fault{} && op.Key == "" && len(op.Keys) == 0
}

// reader reads the lines of steps, one after the other.
type reader struct {
	table []step
	ops   []api.Op
}

func (r *reader) line(line string) api.Errno {
	if len(line) > mostLine {
		return api.ErrLine
	}
	if line == "" || line[0] == '#' {
		return api.OK
	}
	if len(r.ops) == mostSteps {
		return api.ErrLines
	}
	words := strings.Split(line, " ")
	i := slices.IndexFunc(r.table, func(s step) bool { return s.word == words[0] })
	if i < 0 {
		return api.ErrOp
	}
	return r.step(r.table[i], words[1:])
}

func (r *reader) step(s step, words []string) api.Errno {
	if len(words) < s.least || len(words) > s.most {
		return api.ErrWords
	}
	op := api.Op{Kind: s.kind}
	if errno := s.read(words, &op); errno != api.OK {
		return errno
	}
	r.ops = append(r.ops, op)
	return api.OK
}

// fields finds the numbers of a step that a line names, in the line's order.
type fields func(op *api.Op) []*int

func nothing(*api.Op) []*int { return nil }

func first(op *api.Op) []*int { return []*int{&op.I} }

func both(op *api.Op) []*int { return []*int{&op.I, &op.J} }

func node(op *api.Op) []*int { return []*int{&op.Node} }

func nodeAndFirst(op *api.Op) []*int { return []*int{&op.Node, &op.I} }

func nodeAndBoth(op *api.Op) []*int { return []*int{&op.Node, &op.I, &op.J} }

func job(op *api.Op) []*int {
	return []*int{&op.Job.Version, &op.Job.Policy, &op.Job.Memory, &op.Job.FanIn}
}

// reads reads a line that has these numbers and nothing else.
func reads(named fields) func(words []string, op *api.Op) api.Errno {
	return func(words []string, op *api.Op) api.Errno { return readNumbers(words, named(op)) }
}

// writes writes such a line.
func writes(named fields) func(op *api.Op, w *writer) {
	return func(op *api.Op, w *writer) { w.take(named(op)) }
}

func readBuild(words []string, op *api.Op) api.Errno {
	numbers := job(op)
	if errno := readNumbers(words[:len(numbers)], numbers); errno != api.OK {
		return errno
	}
	for _, word := range words[len(numbers):] {
		p, ok := pairOf(word)
		if !ok {
			return api.ErrWord
		}
		op.Pairs = append(op.Pairs, p)
	}
	return api.OK
}

func writeBuild(op *api.Op, w *writer) {
	w.take(job(op))
	w.pairs(op.Pairs)
	op.Pairs = nil
}

func readGet(words []string, op *api.Op) api.Errno {
	key, ok := keyOf(words[0])
	if !ok {
		return api.ErrWord
	}
	op.Key = key
	return api.OK
}

func writeGet(op *api.Op, w *writer) {
	w.key(op.Key)
	op.Key = ""
}

func readGetAll(words []string, op *api.Op) api.Errno {
	for _, word := range words {
		key, ok := keyOf(word)
		if !ok {
			return api.ErrWord
		}
		op.Keys = append(op.Keys, key)
	}
	return api.OK
}

func writeGetAll(op *api.Op, w *writer) {
	for _, key := range op.Keys {
		w.key(key)
	}
	op.Keys = nil
}
