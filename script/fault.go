package script

import (
	"slices"

	"granary/api"
)

// fault is a row of the table of faults: its word in the line of a turn, and the numbers that stand behind it.
type fault struct {
	word  string
	kind  int
	named fields
}

func faults() []fault {
	return []fault{
		{"lost", api.FaultLost, nothing},
		{"trim", api.FaultTrim, where},
		{"flip", api.FaultFlip, whereAndMask},
		{"forge", api.FaultForge, whereAndMask},
	}
}

func where(op *api.Op) []*int { return []*int{&op.Fault.At} }

func whereAndMask(op *api.Op) []*int { return []*int{&op.Fault.At, &op.Fault.Mask} }

// readTurn looks at the fault's word and at how many words there are ahead of looking at any number.
func readTurn(words []string, op *api.Op) api.Errno {
	if len(words) == 1 {
		return readNumbers(words, node(op))
	}
	table := faults()
	i := slices.IndexFunc(table, func(f fault) bool { return f.word == words[1] })
	if i < 0 {
		return api.ErrWord
	}
	op.Fault.Kind = table[i].kind
	numbers := table[i].named(op)
	if len(words) != 2+len(numbers) {
		return api.ErrWords
	}
	if errno := readNumbers(words[:1], node(op)); errno != api.OK {
		return errno
	}
	return readNumbers(words[2:], numbers)
}

// writeTurn leaves a fault that is none of the table's in the step.
func writeTurn(op *api.Op, w *writer) {
	w.take(node(op))
	for _, f := range faults() {
		if f.kind == op.Fault.Kind {
			w.put(" " + f.word)
			w.take(f.named(op))
			op.Fault.Kind = api.FaultNone
			return
		}
	}
}
