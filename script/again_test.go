package script

import (
	"slices"
	"strings"
	"testing"

	"granary/api"
)

// P18.4: what Print writes, Parse reads.

// drawnOp is a step that can be written.
func drawnOp(lot *dice) api.Op {
	number := func() int { return drawnNumber(lot) }
	op := api.Op{Kind: 1 + lot.roll(21)}
	fields := named(op.Kind)
	for _, f := range stepFields() {
		if slices.Contains(fields, f.name) && f.name != "no Keys" && f.name != "no Pairs" {
			f.set(&op, number())
		}
	}
	switch op.Kind {
	case api.OpTurn:
		op.Fault = oneOf(lot, api.Fault{}, api.Fault{Kind: 1}, api.Fault{Kind: 2, At: number()}, api.Fault{Kind: 3, At: number(), Mask: number()}, api.Fault{Kind: 4, At: number(), Mask: number()})
	case api.OpGet:
		op.Key = drawnBytes(lot)
	case api.OpGetAll:
		op.Keys = nil
		for range lot.roll(5) {
			op.Keys = append(op.Keys, drawnBytes(lot))
		}
	case api.OpBuild:
		op.Pairs = nil
		for range lot.roll(5) {
			op.Pairs = append(op.Pairs, api.Pair{Key: drawnBytes(lot), Value: drawnBytes(lot)})
		}
	}
	return op
}

func drawnPlay(lot *dice) api.Play {
	var p api.Play
	for range lot.roll(4) {
		p.Cluster += oneOf(lot, "store s", "", "#", "steps ", " steps", "steps\r", strings.ReplaceAll(drawnBytes(lot), "\n", "")) + "\n"
	}
	for range lot.roll(10) {
		p.Ops = append(p.Ops, drawnOp(lot))
	}
	return p
}

func TestPlaysByLot(t *testing.T) {
	lot := dice(4)
	kinds := map[int]int{}
	for range 20000 {
		p := drawnPlay(&lot)
		text, e := Print(p)
		if e != api.OK {
			t.Fatalf("Print(%s) = %d", short(p), e)
		}
		parses(t, text, p.Cluster, p.Ops...)
		printsAgain(t, text, p)
		if got, line, e := modelParse(text); e != api.OK || !samePlay(got, p) {
			t.Fatalf("%q says %s to a plain reader, in line %d the error %d", text, short(got), line, e)
		}
		for _, op := range p.Ops {
			kinds[op.Kind]++
		}
		if t.Failed() {
			return
		}
	}
	for kind := 1; kind <= 21; kind++ {
		if kinds[kind] < 1000 {
			t.Errorf("the kind %d was seen %d times only", kind, kinds[kind])
		}
	}
}

// Steps of any fields: those that cannot be written are just those that no line gives.
func TestStepsByLot(t *testing.T) {
	lot := dice(44)
	told := map[api.Errno]int{}
	for range 60000 {
		op := drawnOp(&lot)
		if lot.roll(2) == 0 {
			oneOf(&lot, stepFields()...).set(&op, drawnNumber(&lot))
		}
		if lot.roll(8) == 0 {
			op.Kind = lot.roll(26) - 2
		}
		line, e := PrintOp(op)
		told[e]++
		again, code := modelStep(line)
		switch {
		case e == api.OK && (code != api.OK || !sameOp(again, op)):
			t.Fatalf("PrintOp(%s) = %q, which says %s", short(op), line, short(again))
		case e == api.ErrOp && (line != "" || op.Kind >= 1 && op.Kind <= 21):
			t.Fatalf("PrintOp(%s) = %q, %d", short(op), line, e)
		case e == api.ErrPrint && (line != "" || isWritable(op)):
			t.Fatalf("PrintOp(%s) = %q, %d", short(op), line, e)
		}
	}
	for _, e := range []api.Errno{api.OK, api.ErrOp, api.ErrPrint} {
		if told[e] < 500 {
			t.Errorf("the error %d was seen %d times only", e, told[e])
		}
	}
	is(t, "sorts of answers", len(told), 3)
}

// isWritable tells whether all that its line does not name is 0, "" or without elements.
func isWritable(op api.Op) bool {
	fields := named(op.Kind)
	has := func(name string) bool { return slices.Contains(fields, name) }
	f := op.Fault
	turns := op.Kind == api.OpTurn && (f == api.Fault{Kind: 1} || f == api.Fault{Kind: 2, At: f.At} || f.Kind == 3 || f.Kind == 4)
	return op.Kind >= 1 && op.Kind <= 21 &&
		(has("Node") || op.Node == 0) && (has("I") || op.I == 0) && (has("J") || op.J == 0) &&
		(has("Version") || op.Job == api.Job{}) && (has("Pairs") || len(op.Pairs) == 0) &&
		(has("Key") || op.Key == "") && (has("Keys") || len(op.Keys) == 0) && (turns || f == api.Fault{})
}
