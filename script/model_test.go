package script

import (
	"fmt"
	"net/url"
	"reflect"
	"strconv"
	"strings"
	"testing"

	"granary/api"
)

// A plain reading of the chapter, held against the program: a word is good if what it says is written just so.

// modelWords are the fields that stand behind each word: of a step a path to a number, or "key"; "keys" and "pairs" are any number of words.
var modelWords = map[string]string{
	"build": "1 Job.Version Job.Policy Job.Memory Job.FanIn pairs", "tick": "2", "deliver": "4 I", "drop": "5 I", "copy": "6 I", "cut": "7 I J", "heal": "8 I J", "fuse": "9 Node I", "crash": "10 Node I J", "boot": "11 Node", "swap": "12 I", "back": "13 I", "stop": "14", "revive": "15", "get": "16 key", "getall": "17 keys", "purge": "18 I", "audit": "19 I", "look": "20", "export": "21 I",
	"turn": "3 Node", "turn lost": "3 Node 1", "turn trim": "3 Node 2 Fault.At", "turn flip": "3 Node 3 Fault.At Fault.Mask", "turn forge": "3 Node 4 Fault.At Fault.Mask",
}

func modelNumber(word string) (int, bool) {
	n, err := strconv.ParseInt(word, 10, 64)
	return int(n), err == nil && fmt.Sprint(n) == word
}

func modelBytes(word string) (string, bool) {
	text, err := url.PathUnescape(word)
	return text, err == nil && asWritten(text) == word
}

func modelField(op *api.Op, field, word string) bool {
	ahead, behind, found := strings.Cut(word, "=")
	key, isKey := modelBytes(ahead)
	value, isValue := modelBytes(behind)
	switch field {
	case "key", "keys":
		if field == "key" {
			op.Key = value
		} else {
			op.Keys = append(op.Keys, value)
		}
		return found && ahead == "" && isValue
	case "pairs":
		op.Pairs = append(op.Pairs, api.Pair{Key: key, Value: value})
		return found && isKey && isValue
	}
	place := reflect.ValueOf(op).Elem()
	for _, name := range strings.Split(field, ".") {
		place = place.FieldByName(name)
	}
	n, ok := modelNumber(word)
	place.SetInt(int64(n))
	return ok
}

// modelStep reads a step's line.
func modelStep(line string) (api.Op, api.Errno) {
	words := strings.Split(line, " ")
	fields, there := modelWords[words[0]]
	if !there {
		return api.Op{}, api.ErrOp
	}
	if words[0] == "turn" && (len(words) < 2 || len(words) > 5) {
		return api.Op{}, api.ErrWords
	}
	var op api.Op
	if words[0] == "turn" && len(words) > 2 {
		if fields, there = modelWords["turn "+words[2]]; !there {
			return api.Op{}, api.ErrWord
		}
		op.Fault.Kind = int(fields[len("3 Node ")] - '0')
		fields = fields[:len("3 Node")] + fields[len("3 Node 1"):]
		words = append(words[:2:2], words[3:]...)
	}
	list := strings.Split(fields, " ")
	last := list[len(list)-1]
	many := last == "keys" || last == "pairs"
	if many && len(words) < len(list)-1 || !many && len(words) != len(list) {
		return api.Op{}, api.ErrWords
	}
	op.Kind, _ = strconv.Atoi(list[0])
	for i, word := range words[1:] {
		if !modelField(&op, list[min(i+1, len(list)-1)], word) {
			return api.Op{}, api.ErrWord
		}
	}
	return op, api.OK
}

// modelParse reads a whole text.
func modelParse(text string) (api.Play, int, api.Errno) {
	lines := strings.SplitAfter(text, "\n")
	if lines[len(lines)-1] == "" {
		lines = lines[:len(lines)-1]
	}
	var p api.Play
	begun := false
	for i, line := range lines {
		bare := strings.TrimSuffix(line, "\n")
		if !begun {
			if begun = bare == "steps"; begun {
				p.Cluster = strings.Join(lines[:i], "")
			}
			continue
		}
		if len(bare) > 262144 {
			return api.Play{}, i + 1, api.ErrLine
		}
		if bare == "" || strings.HasPrefix(bare, "#") {
			continue
		}
		if len(p.Ops) >= 10000 {
			return api.Play{}, i + 1, api.ErrLines
		}
		op, e := modelStep(bare)
		if e != api.OK {
			return api.Play{}, i + 1, e
		}
		p.Ops = append(p.Ops, op)
	}
	if !begun {
		return api.Play{}, 0, api.ErrText
	}
	return p, 0, api.OK
}

// agrees holds the program against the plain reading, and tells the error.
func agrees(t *testing.T, text string) api.Errno {
	t.Helper()
	want, line, e := modelParse(text)
	if e != api.OK {
		refuses(t, text, line, e)
	} else {
		parses(t, text, want.Cluster, want.Ops...)
		printsAgain(t, text, want)
	}
	return e
}

// printsAgain holds P18.4 of a text and the play that it is.
func printsAgain(t *testing.T, text string, p api.Play) {
	t.Helper()
	var lines []string
	for _, op := range p.Ops {
		line, e := PrintOp(op)
		if e != api.OK {
			t.Errorf("PrintOp(%s) = %d", short(op), e)
		}
		lines = append(lines, line+"\n")
	}
	whole, e := Print(p)
	if want := p.Cluster + "steps\n" + strings.Join(lines, ""); whole != want || e != api.OK {
		t.Errorf("Print of what %s says = %s, %d", short(text), short(whole), e)
	}
	_, behind, _ := strings.Cut(text[len(p.Cluster):], "\n")
	var own []string
	for line := range strings.SplitSeq(behind, "\n") {
		if line != "" && line[0] != '#' {
			own = append(own, line+"\n")
		}
	}
	is(t, "the steps' own lines", strings.Join(lines, ""), strings.Join(own, ""))
	parses(t, whole, p.Cluster, p.Ops...)
}

// Texts that are drawn by lot: mostly good words, and some that are not.

func drawnWord(lot *dice, field string) string {
	if lot.roll(40) == 0 {
		return oneOf(lot, "", "x", "=", "==", "a", "01", "-0", "-", "+1", "%61", "=%61", "=%0A", "a=%g0", "9223372036854775808", "-9223372036854775809", "lost", "flop", "1=2=3", "\t", "=\xff", "%", "=%2", "\r")
	}
	switch field {
	case "key", "keys":
		return "=" + asWritten(drawnBytes(lot))
	case "pairs":
		return asWritten(drawnBytes(lot)) + "=" + asWritten(drawnBytes(lot))
	}
	return fmt.Sprint(drawnNumber(lot))
}

func drawnNumber(lot *dice) int {
	return oneOf(lot, 0, 1, -1, -2, lot.roll(100), -lot.roll(100), lot.roll(1<<30)*lot.roll(1<<30), mostInt, leastInt, mostInt-lot.roll(9), leastInt+lot.roll(9))
}

func drawnBytes(lot *dice) string {
	var out []byte
	for range lot.roll(6) {
		out = append(out, oneOf(lot, byte(lot.roll(256)), 'a', 'Z', '0', '.', ' ', '='))
	}
	return string(out)
}

var allWords = []string{"build", "tick", "turn", "turn lost", "turn trim", "turn flip", "turn forge", "deliver", "drop", "copy", "cut", "heal", "fuse", "crash", "boot", "swap", "back", "stop", "revive", "get", "getall", "purge", "audit", "look", "export"}

func drawnLine(lot *dice) string {
	name := oneOf(lot, allWords...)
	word, faultWord, isFault := strings.Cut(name, " ")
	words := []string{word}
	for i, field := range strings.Split(modelWords[name], " ")[1:] {
		count := 1
		if field == "keys" || field == "pairs" {
			count = lot.roll(4)
		}
		for range count {
			if isFault && i == 1 {
				words = append(words, faultWord)
			} else {
				words = append(words, drawnWord(lot, field))
			}
		}
	}
	switch lot.roll(60) {
	case 0:
		words = words[:len(words)-1]
	case 1:
		words = append(words, drawnWord(lot, ""))
	case 2:
		words[lot.roll(len(words))] += " "
	case 3:
		words[0] = oneOf(lot, "Tick", "", "tock", "steps", "#", "\t")
	case 4:
		words[lot.roll(len(words))] = oneOf(lot, "lost", "flip", "trim", "0", "=a", "a=b")
	}
	return strings.Join(words, " ")
}

func drawnText(lot *dice) string {
	var out strings.Builder
	for range lot.roll(3) {
		out.WriteString(oneOf(lot, "store s", "", "# steps", "steps ", "tick", "\xff\x00") + "\n")
	}
	if lot.roll(20) > 0 {
		out.WriteString("steps\n")
	}
	for range lot.roll(12) {
		out.WriteString(oneOf(lot, "", "", "", "#\n", "\n", "# get a\n") + drawnLine(lot) + "\n")
	}
	text := out.String()
	switch lot.roll(6) {
	case 0:
		text = strings.TrimSuffix(text, "\n")
	case 1:
		text = text[:lot.roll(len(text)+1)]
	case 2:
		at := lot.roll(len(text) + 1)
		text = text[:at] + byteText(lot.roll(256)) + text[at:]
	}
	return text
}

func TestTextsByLot(t *testing.T) {
	lot := dice(18)
	told := map[api.Errno]int{}
	for range 60000 {
		told[agrees(t, drawnText(&lot))]++
		if t.Failed() {
			return
		}
	}
	for _, e := range []api.Errno{api.OK, api.ErrText, api.ErrOp, api.ErrWords, api.ErrWord} {
		if told[e] < 500 {
			t.Errorf("the error %d was seen %d times only", e, told[e])
		}
	}
}

func TestLinesByLot(t *testing.T) {
	lot := dice(180)
	told := map[api.Errno]int{}
	for range 60000 {
		line := drawnLine(&lot)
		if lot.roll(3) == 0 {
			at := lot.roll(len(line) + 1)
			line = line[:at] + oneOf(&lot, " ", "0", "=", "%", "-", "a", "\xc3", "+") + line[min(len(line), at+lot.roll(2)):]
		}
		told[agrees(t, "steps\n"+line)]++
		if t.Failed() {
			return
		}
	}
	for _, e := range []api.Errno{api.OK, api.ErrOp, api.ErrWords, api.ErrWord} {
		if told[e] < 500 {
			t.Errorf("the error %d was seen %d times only", e, told[e])
		}
	}
}
