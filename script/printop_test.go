package script

import (
	"fmt"
	"slices"
	"strings"
	"testing"

	"granary/api"
)

// P18.1

func TestEachRowIsWritten(t *testing.T) {
	for _, r := range rows() {
		prints(t, r.op, r.line)
	}
}

// stepField is a part of a step, and how it is set to something.
type stepField struct {
	name string
	set  func(op *api.Op, n int)
}

func stepFields() []stepField {
	return []stepField{
		{"Node", func(op *api.Op, n int) { op.Node = n }},
		{"I", func(op *api.Op, n int) { op.I = n }},
		{"J", func(op *api.Op, n int) { op.J = n }},
		{"Version", func(op *api.Op, n int) { op.Job.Version = n }},
		{"Policy", func(op *api.Op, n int) { op.Job.Policy = n }},
		{"Memory", func(op *api.Op, n int) { op.Job.Memory = n }},
		{"FanIn", func(op *api.Op, n int) { op.Job.FanIn = n }},
		{"Kind", func(op *api.Op, n int) { op.Fault.Kind = n }},
		{"At", func(op *api.Op, n int) { op.Fault.At = n }},
		{"Mask", func(op *api.Op, n int) { op.Fault.Mask = n }},
		{"Key", func(op *api.Op, n int) { op.Key = fmt.Sprint(n) }},
		{"Keys", func(op *api.Op, n int) { op.Keys = []string{fmt.Sprint(n)} }},
		{"no Keys", func(op *api.Op, n int) { op.Keys = []string{""} }},
		{"Pairs", func(op *api.Op, n int) { op.Pairs = []api.Pair{{Key: fmt.Sprint(n)}} }},
		{"no Pairs", func(op *api.Op, n int) { op.Pairs = []api.Pair{{}} }},
	}
}

// named tells which fields the line of a kind names, whatever stands in the others. (Those of a fault are held elsewhere.)
func named(kind int) []string {
	switch kind {
	case api.OpBuild:
		return []string{"Version", "Policy", "Memory", "FanIn", "Pairs", "no Pairs"}
	case api.OpTurn, api.OpBoot:
		return []string{"Node"}
	case api.OpDeliver, api.OpDrop, api.OpCopy, api.OpSwap, api.OpBack, api.OpPurge, api.OpAudit, api.OpExport:
		return []string{"I"}
	case api.OpCut, api.OpHeal:
		return []string{"I", "J"}
	case api.OpFuse:
		return []string{"Node", "I"}
	case api.OpCrash:
		return []string{"Node", "I", "J"}
	case api.OpGet:
		return []string{"Key"}
	case api.OpGetAll:
		return []string{"Keys", "no Keys"}
	}
	return nil
}

// Each field beside each kind: what its line names is in the line, what it does not name cannot be written.
func TestFieldsThatALineDoesNotName(t *testing.T) {
	for _, r := range rows() {
		for _, f := range stepFields() {
			for _, n := range []int{1, -1, 10, mostInt, leastInt} {
				if r.op.Kind == api.OpTurn && slices.Contains([]string{"Kind", "At", "Mask"}, f.name) {
					continue
				}
				op := copyOp(r.op)
				f.set(&op, n)
				if !slices.Contains(named(op.Kind), f.name) {
					printFails(t, op, api.ErrPrint)
					continue
				}
				line, e := PrintOp(op)
				if e != api.OK || !strings.HasPrefix(f.name, "no ") && !strings.Contains(line, fmt.Sprint(n)) {
					t.Errorf("%s is %d in %s: %q, %d", f.name, n, short(op), line, e)
				}
			}
		}
	}
}

// What stands in a field that is named makes no difference to those that are not.
func TestFieldsOfAStepThatIsZero(t *testing.T) {
	for kind := 1; kind <= 21; kind++ {
		for _, f := range stepFields() {
			op := api.Op{Kind: kind}
			f.set(&op, 1)
			switch {
			case kind == api.OpTurn && f.name == "Kind":
				prints(t, op, "turn 0 lost")
			case slices.Contains(named(kind), f.name):
				if _, e := PrintOp(op); e != api.OK {
					t.Errorf("%s of kind %d: %d", f.name, kind, e)
				}
			default:
				printFails(t, op, api.ErrPrint)
			}
		}
	}
}

func TestListsWithoutElements(t *testing.T) {
	room := []string{"x"}
	pairs := []api.Pair{{Key: "x"}}
	for _, r := range rows() {
		if len(r.op.Pairs) == 0 {
			r.op.Pairs = []api.Pair{}
			prints(t, r.op, r.line)
			r.op.Pairs = pairs[:0]
			prints(t, r.op, r.line)
		}
		if len(r.op.Keys) == 0 {
			r.op.Keys = []string{}
			prints(t, r.op, r.line)
			r.op.Keys = room[:0]
			prints(t, r.op, r.line)
		}
	}
}

func TestKindsThatAreNone(t *testing.T) {
	for _, kind := range []int{leastInt, -22, -21, -2, -1, 0, 22, 23, 24, 100, 256 + 2, 1<<32 + 2, mostInt} {
		printFails(t, api.Op{Kind: kind}, api.ErrOp)
		for _, f := range stepFields() {
			op := api.Op{Kind: kind}
			f.set(&op, 1)
			printFails(t, op, api.ErrOp)
		}
		printFails(t, api.Op{Kind: kind, Key: strings.Repeat("k", 300000), Node: 1}, api.ErrOp)
	}
	for kind := 1; kind <= 21; kind++ {
		if _, e := PrintOp(api.Op{Kind: kind}); e != api.OK {
			t.Errorf("kind %d: %d", kind, e)
		}
	}
}

func TestEachFault(t *testing.T) {
	numbers := []int{0, 1, -1, 255, 256, mostInt, leastInt}
	for _, kind := range []int{leastInt, -4, -3, -2, -1, 0, 1, 2, 3, 4, 5, 6, 7, 1<<32 + 1, mostInt} {
		for _, at := range numbers {
			for _, mask := range numbers {
				op := api.Op{Kind: api.OpTurn, Node: at, Fault: api.Fault{Kind: kind, At: at, Mask: mask}}
				switch {
				case kind == 0 && at == 0 && mask == 0:
					prints(t, op, fmt.Sprint("turn ", at))
				case kind == 1 && at == 0 && mask == 0:
					prints(t, op, fmt.Sprint("turn ", at, " lost"))
				case kind == 2 && mask == 0:
					prints(t, op, fmt.Sprint("turn ", at, " trim ", at))
				case kind == 3:
					prints(t, op, fmt.Sprint("turn ", at, " flip ", at, " ", mask))
				case kind == 4:
					prints(t, op, fmt.Sprint("turn ", at, " forge ", at, " ", mask))
				default:
					printFails(t, op, api.ErrPrint)
				}
			}
		}
	}
}

func TestNumbersAreWritten(t *testing.T) {
	for n, want := range map[int]string{0: "0", 1: "1", -1: "-1", 9: "9", 10: "10", -10: "-10", 100: "100", mostInt: "9223372036854775807", leastInt: "-9223372036854775808"} {
		prints(t, api.Op{Kind: api.OpDeliver, I: n}, "deliver "+want)
		prints(t, api.Op{Kind: api.OpCrash, Node: n, I: n, J: n}, "crash "+want+" "+want+" "+want)
		prints(t, api.Op{Kind: api.OpBuild, Job: api.Job{Version: n, Policy: n, Memory: n, FanIn: n}}, "build "+want+" "+want+" "+want+" "+want)
	}
}

func TestEachByteIsWritten(t *testing.T) {
	for b := range 256 {
		text := byteText(b)
		want := text
		if !isAsItIs(b) {
			want = fmt.Sprintf("%%%02x", b)
		}
		prints(t, api.Op{Kind: api.OpGet, Key: text}, "get ="+want)
		prints(t, api.Op{Kind: api.OpGet, Key: "a" + text + text + "z"}, "get =a"+want+want+"z")
		prints(t, api.Op{Kind: api.OpGetAll, Keys: []string{text, "", text}}, "getall ="+want+" = ="+want)
		prints(t, api.Op{Kind: api.OpBuild, Pairs: []api.Pair{{Key: text, Value: "v"}, {Key: "k", Value: text}}}, "build 0 0 0 0 "+want+"=v k="+want)
	}
	prints(t, api.Op{Kind: api.OpGet, Key: "é\u2028"}, "get =%c3%a9%e2%80%a8")
}

// The line that is just as long as may be, and one that is a byte longer.
func TestLongestLine(t *testing.T) {
	of := func(size int, line string, op api.Op) {
		t.Helper()
		is(t, "bytes of "+line[:10], len(line), size)
		if size <= 262144 {
			prints(t, op, line)
		} else {
			printFails(t, op, api.ErrLine)
		}
	}
	for _, more := range []int{0, 1, 2, 3} {
		size := 262144 - 1 + more
		key := strings.Repeat("k", size-5)
		of(size, "get ="+key, api.Op{Kind: api.OpGet, Key: key})
		of(size, "getall ="+key[3:], api.Op{Kind: api.OpGetAll, Keys: []string{key[3:]}})
		of(size, "getall ="+key[5:]+" =", api.Op{Kind: api.OpGetAll, Keys: []string{key[5:], ""}})
		of(size, "build 1 0 0 0 "+key[10:]+"=", api.Op{Kind: api.OpBuild, Job: api.Job{Version: 1}, Pairs: []api.Pair{{Key: key[10:]}}})
		of(size, "build 1 0 0 0 ="+key[10:], api.Op{Kind: api.OpBuild, Job: api.Job{Version: 1}, Pairs: []api.Pair{{Value: key[10:]}}})
		of(size, "get ="+strings.Repeat("%00", 1000)+key[3000:], api.Op{Kind: api.OpGet, Key: strings.Repeat("\x00", 1000) + key[3000:]})
		of(size, "get ="+key[3:]+"%ff", api.Op{Kind: api.OpGet, Key: key[3:] + "\xff"})
	}
	keys := make([]string, 131070)
	line := "getall" + strings.Repeat(" =", 131069)
	of(262144, line, api.Op{Kind: api.OpGetAll, Keys: keys[:131069]})
	of(262146, line+" =", api.Op{Kind: api.OpGetAll, Keys: keys})
	pairs := make([]api.Pair, 131066)
	line = "build 10 0 0 0" + strings.Repeat(" =", 131065)
	of(262144, line, api.Op{Kind: api.OpBuild, Job: api.Job{Version: 10}, Pairs: pairs[:131065]})
	of(262145, "build 100 0 0 0"+line[14:], api.Op{Kind: api.OpBuild, Job: api.Job{Version: 100}, Pairs: pairs[:131065]})
	of(262146, line+" =", api.Op{Kind: api.OpBuild, Job: api.Job{Version: 10}, Pairs: pairs})
}

func TestLinesFarTooLong(t *testing.T) {
	huge := strings.Repeat("\x00", 10_000_000)
	many := slices.Repeat([]string{huge}, 20)
	printFails(t, api.Op{Kind: api.OpGet, Key: huge}, api.ErrLine)
	printFails(t, api.Op{Kind: api.OpGetAll, Keys: many}, api.ErrLine)
	printFails(t, api.Op{Kind: api.OpGetAll, Keys: []string{huge, "a"}}, api.ErrLine)
	printFails(t, api.Op{Kind: api.OpBuild, Pairs: []api.Pair{{Key: "a"}, {Key: huge, Value: huge}, {Key: "b"}}}, api.ErrLine)
}

// Where two errors fit, the one that is named first is answered.
func TestWhichErrorOfAStep(t *testing.T) {
	long := strings.Repeat("k", 300000)
	printFails(t, api.Op{Kind: 0, Key: long}, api.ErrOp)
	printFails(t, api.Op{Kind: 22, Node: 1, Key: long}, api.ErrOp)
	printFails(t, api.Op{Kind: api.OpGet, Key: long}, api.ErrLine)
	for _, f := range stepFields() {
		op := api.Op{Kind: api.OpGet, Key: long}
		f.set(&op, 1)
		if f.name != "Key" {
			printFails(t, op, api.ErrPrint)
		}
	}
	printFails(t, api.Op{Kind: api.OpGet, Key: "k", Keys: []string{long}}, api.ErrPrint)
	printFails(t, api.Op{Kind: api.OpTick, Key: long}, api.ErrPrint)
	printFails(t, api.Op{Kind: api.OpGetAll, Keys: []string{long}, J: 1}, api.ErrPrint)
	printFails(t, api.Op{Kind: api.OpBuild, Pairs: []api.Pair{{Key: long}}, Fault: api.Fault{Mask: 1}}, api.ErrPrint)
}
