package script

import (
	"fmt"
	"reflect"
	"slices"
	"strconv"
	"strings"
	"testing"

	"granary/api"
)

// P18.6

// fullEvent is an event of a kind in which every field is something, and each something else.
func fullEvent(kind int) api.Event {
	return api.Event{
		Kind: kind, Node: 101, Code: 102, Version: 103,
		M:        api.Msg{Kind: 201, From: 202, To: 203, Id: 204, Epoch: 205, Seq: 206, Version: 207, Prev: 208, Code: 209, Key: "m k", Value: "m/v"},
		Built:    api.Built{Pairs: 301, Kept: 302, Files: 303, Bytes: 304},
		Report:   api.Report{Job: 401, Kind: 402, Version: 403, Outcome: 404, Holds: []int{405, -406}, Missing: []int{407, 408, 409}},
		Outcome:  api.Outcome{Ticket: 501, Key: "o\x00k", Code: 502, Node: 503, Version: 504, Value: "o=v"},
		Audited:  api.Audited{Job: 601, Version: 602, Outcome: 603, Differ: []int{604}, Missing: []int{605, 606}},
		Exported: api.Exported{Job: 701, Version: 702, Pairs: []api.Pair{{Key: "x", Value: "%"}, {}, {Value: "y"}}, Missing: []int{703, 704}},
	}
}

var fullLines = map[int]string{
	1:  "refused 102",
	2:  "built 103 102 301 302 303 304",
	3:  "sent 101 201 202 203 204 205 206 207 208 209 =m%20k =m%2fv",
	4:  "lost 101",
	5:  "down 101",
	6:  "up 101 102 103",
	7:  "report 401 402 403 404 405,-406 407,408,409",
	8:  "got 501 502 503 504 =o%00k =o%3dv",
	9:  "audited 601 602 603 604 605,606",
	10: "exported 701 702 703,704 x=%25 = =y",
}

var zeroLines = map[int]string{
	1: "refused 0", 2: "built 0 0 0 0 0 0", 3: "sent 0 0 0 0 0 0 0 0 0 0 = =", 4: "lost 0", 5: "down 0", 6: "up 0 0 0", 7: "report 0 0 0 0 - -", 8: "got 0 0 0 0 = =", 9: "audited 0 0 0 - -", 10: "exported 0 0 -",
}

func TestEachKindIsTold(t *testing.T) {
	for kind := 1; kind <= 10; kind++ {
		told(t, fullLines[kind]+"\n", fullEvent(kind))
		told(t, zeroLines[kind]+"\n", api.Event{Kind: kind})
	}
	for _, kind := range []int{leastInt, -10, -1, 0, 11, 12, 100, 1<<32 + 1, mostInt} {
		want := "event " + strconv.Itoa(kind) + "\n"
		told(t, want, fullEvent(kind))
		told(t, want, api.Event{Kind: kind})
	}
}

func TestSeveralEvents(t *testing.T) {
	is(t, "none", Tell(nil), "")
	is(t, "none", Tell([]api.Event{}), "")
	var list []api.Event
	want := ""
	for i := range 300 {
		kind := i*7%13 - 1
		list = append(list, fullEvent(kind))
		line, there := fullLines[kind]
		if !there {
			line = fmt.Sprint("event ", kind)
		}
		want += line + "\n"
	}
	told(t, want, list...)
	told(t, "down 1\ndown 1\nup 2 3 4\nlost -2\n", api.Event{Kind: 5, Node: 1}, api.Event{Kind: 5, Node: 1}, api.Event{Kind: 6, Node: 2, Code: 3, Version: 4}, api.Event{Kind: 4, Node: -2})
}

// leaves goes over all numbers, texts and lists of an event, each with its name.
func leaves(v reflect.Value, name string, do func(name string, leaf reflect.Value)) {
	if v.Kind() != reflect.Struct {
		do(name, v)
		return
	}
	for i := range v.NumField() {
		leaves(v.Field(i), strings.TrimPrefix(name+"."+v.Type().Field(i).Name, "."), do)
	}
}

// change makes something else of a leaf.
func change(leaf reflect.Value) {
	switch list := leaf.Addr().Interface().(type) {
	case *string:
		*list += "\xfe"
	case *[]int:
		*list = append(slices.Clone(*list), 77)
	case *[]api.Pair:
		*list = append(slices.Clone(*list), api.Pair{})
	default:
		leaf.SetInt(leaf.Int() + 1000)
	}
}

// toldOf are the fields that a kind's line names, ahead of which "Kind" is every kind's.
var toldOf = map[int]string{
	1: "Code", 2: "Version Code Built.", 3: "Node M.", 4: "Node", 5: "Node", 6: "Node Code Version", 7: "Report.", 8: "Outcome.", 9: "Audited.", 10: "Exported.", 11: "", 0: "", -1: "",
}

// Each field that a line names is told, and the others make no difference.
func TestFieldsOfEvents(t *testing.T) {
	for kind, names := range toldOf {
		var all []string
		v := fullEvent(kind)
		leaves(reflect.ValueOf(&v).Elem(), "", func(name string, _ reflect.Value) { all = append(all, name) })
		is(t, "fields", len(all), 4+11+4+6+6+5+4)
		for _, name := range all {
			if name == "Kind" {
				continue
			}
			v := fullEvent(kind)
			leaves(reflect.ValueOf(&v).Elem(), "", func(leafName string, leaf reflect.Value) {
				if leafName == name {
					change(leaf)
				}
			})
			named := slices.Contains(strings.Split(names, " "), name)
			if part, _, found := strings.Cut(name, "."); found {
				named = slices.Contains(strings.Split(names, " "), part+".")
			}
			if differs := Tell([]api.Event{v}) != Tell([]api.Event{fullEvent(kind)}); differs != named {
				t.Errorf("kind %d: %s makes a difference: %v, want %v", kind, name, differs, named)
			}
		}
	}
}

func TestNumbersAndListsAreTold(t *testing.T) {
	for _, n := range []int{0, 1, -1, 10, mostInt, leastInt} {
		word := strconv.Itoa(n)
		told(t, "refused "+word+"\n", api.Event{Kind: 1, Code: api.Errno(n)})
		told(t, "down "+word+"\n", api.Event{Kind: 5, Node: n})
		told(t, "report "+word+" 0 0 0 "+word+" "+word+","+word+"\n", api.Event{Kind: 7, Report: api.Report{Job: n, Holds: []int{n}, Missing: []int{n, n}}})
	}
	told(t, "audited 1 2 3 - -\n", api.Event{Kind: 9, Audited: api.Audited{Job: 1, Version: 2, Outcome: 3, Differ: []int{}, Missing: []int{}}})
	told(t, "exported 1 2 -\n", api.Event{Kind: 10, Exported: api.Exported{Job: 1, Version: 2, Pairs: []api.Pair{}, Missing: []int{}}})
	var long []int
	var words []string
	for i := range 5000 {
		long = append(long, i*i-7)
		words = append(words, strconv.Itoa(i*i-7))
	}
	list := strings.Join(words, ",")
	told(t, "report 0 0 0 0 "+list+" -\n", api.Event{Kind: 7, Report: api.Report{Holds: long}})
	told(t, "report 0 0 0 0 - "+list+"\n", api.Event{Kind: 7, Report: api.Report{Missing: long}})
	told(t, "audited 0 0 0 "+list+" "+list+"\n", api.Event{Kind: 9, Audited: api.Audited{Differ: long, Missing: long}})
	told(t, "exported 0 0 "+list+"\n", api.Event{Kind: 10, Exported: api.Exported{Missing: long}})
}

func TestEachByteIsTold(t *testing.T) {
	for b := range 256 {
		text := byteText(b)
		word := asWritten(text)
		told(t, "sent 0 0 0 0 0 0 0 0 0 0 ="+word+" =a"+word+"\n", api.Event{Kind: 3, M: api.Msg{Key: text, Value: "a" + text}})
		told(t, "got 0 0 0 0 =a"+word+" ="+word+"\n", api.Event{Kind: 8, Outcome: api.Outcome{Key: "a" + text, Value: text}})
		told(t, "exported 0 0 - "+word+"= ="+word+"\n", api.Event{Kind: 10, Exported: api.Exported{Pairs: []api.Pair{{Key: text}, {Value: text}}}})
	}
}

// A line of an event has no limit.
func TestLongLinesAreTold(t *testing.T) {
	value := strings.Repeat("v\x00", 500_000)
	told(t, "got 1 0 0 2 =k ="+strings.Repeat("v%00", 500_000)+"\ndown 3\n", api.Event{Kind: 8, Outcome: api.Outcome{Ticket: 1, Version: 2, Key: "k", Value: value}}, api.Event{Kind: 5, Node: 3})
	pairs := slices.Repeat([]api.Pair{{Key: "k", Value: "v"}}, 100_000)
	told(t, "exported 1 2 -"+strings.Repeat(" k=v", 100_000)+"\n", api.Event{Kind: 10, Exported: api.Exported{Job: 1, Version: 2, Pairs: pairs}})
}
