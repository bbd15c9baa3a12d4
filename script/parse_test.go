package script

import (
	"fmt"
	"slices"
	"strings"
	"testing"

	"granary/api"
)

// P18.3

func TestEachRowIsRead(t *testing.T) {
	for _, r := range rows() {
		readsBack(t, r.line, r.op)
	}
}

// lineOfWords is a word of the table: how many words its line has, and such as are good behind it.
type lineOfWords struct {
	word        string
	least, most int
	good        []string
}

func linesOfWords() []lineOfWords {
	return []lineOfWords{
		{"build", 5, 9999, []string{"1", "2", "3", "4", "a=b"}},
		{"tick", 1, 1, nil}, {"stop", 1, 1, nil}, {"revive", 1, 1, nil}, {"look", 1, 1, nil},
		{"deliver", 2, 2, []string{"1"}}, {"drop", 2, 2, []string{"1"}}, {"copy", 2, 2, []string{"1"}}, {"boot", 2, 2, []string{"1"}}, {"swap", 2, 2, []string{"1"}}, {"back", 2, 2, []string{"1"}}, {"purge", 2, 2, []string{"1"}}, {"audit", 2, 2, []string{"1"}}, {"export", 2, 2, []string{"1"}},
		{"cut", 3, 3, []string{"1", "2"}}, {"heal", 3, 3, []string{"1", "2"}}, {"fuse", 3, 3, []string{"1", "2"}},
		{"crash", 4, 4, []string{"1", "2", "3"}},
		{"get", 2, 2, []string{"=a"}}, {"getall", 1, 9999, []string{"=a"}},
	}
}

func TestHowManyWords(t *testing.T) {
	for _, f := range linesOfWords() {
		for count := 1; count <= 9; count++ {
			words := []string{f.word}
			for i := 1; i < count; i++ {
				good := "1"
				if len(f.good) > 0 {
					good = f.good[min(i-1, len(f.good)-1)]
				}
				words = append(words, good)
			}
			line := strings.Join(words, " ")
			if count >= f.least && count <= f.most {
				p, err := Parse("steps\n" + line)
				if err != nil || len(p.Ops) != 1 {
					t.Errorf("%q: %v", line, err)
				}
			} else {
				fails(t, line, api.ErrWords)
				fails(t, f.word+strings.Repeat(" x", count-1), api.ErrWords) // ahead of words that are wrong
			}
		}
	}
}

// A line of the right number of words, one of which is not what it should be.
func TestEachWordThatIsWrong(t *testing.T) {
	for _, r := range rows() {
		words := strings.Split(r.line, " ")
		for i := 1; i < len(words); i++ {
			if words[0] == "turn" && i == 2 {
				continue
			}
			for _, wrong := range []string{"", "x", "01", "-", "+1", "1.0", "a=b=c", "==", "=%61", "%", "=A%", "\t", "1\r", "=\x00", "é", "0x1", "1e1"} {
				fails(t, strings.Join(slices.Replace(slices.Clone(words), i, i+1, wrong), " "), api.ErrWord)
			}
		}
	}
}

func TestFirstWords(t *testing.T) {
	for _, word := range []string{
		" ", "  ", " tick", "\ttick", "\rtick", "tick\r", "tick\t", "tick\x00", "Tick", "TICK", "ticks", "tic", "tick1", "tick,", "steps", "build1", "gets", "getal", "getalls", "geta", "get=a", "get=", "store s", "event 1", "\"tick\"", "-", "=", "1", "\xff", "é", "\x00", "lost", "turn\t1", "deliver\t0", "/", "//", ";", " #", " # tick", "\t#", "refused 1", "opTick", "2", "none", "=k", strings.Repeat("tick", 1000),
	} {
		fails(t, word, api.ErrOp)
		fails(t, word+" 1", api.ErrOp)
		fails(t, word+" 1 2 x =", api.ErrOp)
		fails(t, word+" ", api.ErrOp)
	}
	for _, r := range rows() {
		fails(t, " "+r.line, api.ErrOp)
		fails(t, "\t"+r.line, api.ErrOp)
		fails(t, strings.ToUpper(r.line[:1])+r.line[1:], api.ErrOp)
	}
}

// A blank too many makes an empty word.
func TestEmptyWords(t *testing.T) {
	for _, r := range rows() {
		behind := api.ErrWords
		words := strings.Split(r.line, " ")
		switch {
		case words[0] == "build" || words[0] == "getall":
			behind = api.ErrWord
		case words[0] == "turn" && len(words) == 2:
			behind = api.ErrWord // an empty word is none of the faults'
		}
		fails(t, r.line+" ", behind)
		for i := 1; i < len(words); i++ {
			want := behind
			if words[0] == "turn" && len(words) > 2 && len(words) < 5 && i <= 2 {
				want = api.ErrWord // the third word is another one
			}
			fails(t, strings.Join(words[:i], " ")+"  "+strings.Join(words[i:], " "), want)
		}
	}
	fails(t, "deliver ", api.ErrWord)
	fails(t, "deliver  ", api.ErrWords)
	fails(t, "get ", api.ErrWord)
	fails(t, "getall ", api.ErrWord)
	fails(t, "getall  =a", api.ErrWord)
	fails(t, "getall =a  =b", api.ErrWord)
	fails(t, "build 1 2 3 ", api.ErrWord)
	fails(t, "build 1 2 3 4 ", api.ErrWord)
	fails(t, "build  1 2 3", api.ErrWord)
	fails(t, "build    ", api.ErrWord)
	fails(t, "build   ", api.ErrWords)
	fails(t, "crash   ", api.ErrWord)
	fails(t, "turn ", api.ErrWord)
}

func TestTurns(t *testing.T) {
	faults := map[string]int{"lost": 3, "trim": 4, "flip": 5, "forge": 5}
	for _, third := range []string{"lost", "trim", "flip", "forge", "none", "Lost", "LOST", "flop", "", "1", "0", "-", "lost\t", "lost,", "los", "losts", "\xff"} {
		for count := 3; count <= 7; count++ {
			for _, number := range []string{"1", "-7", "x", ""} {
				line := "turn " + number + " " + third + strings.Repeat(" "+number, count-3)
				size, there := faults[third]
				switch {
				case count > 5:
					fails(t, line, api.ErrWords)
				case !there:
					fails(t, line, api.ErrWord)
				case count != size:
					fails(t, line, api.ErrWords)
				case number == "x" || number == "":
					fails(t, line, api.ErrWord)
				default:
					p, err := Parse("steps\n" + line)
					if err != nil || len(p.Ops) != 1 {
						t.Errorf("%q: %v", line, err)
					}
				}
			}
		}
	}
	fails(t, "turn", api.ErrWords)
	fails(t, "turn lost", api.ErrWord)
	fails(t, "turn x", api.ErrWord)
	fails(t, "turn lost 1", api.ErrWord)
	fails(t, "turn 1 lost lost", api.ErrWords)
	fails(t, "turn 1 flip x", api.ErrWords)
	fails(t, "turn 1 flip x 1", api.ErrWord)
	fails(t, "turn 1 flip 1 x", api.ErrWord)
	fails(t, "turn x flip 1 1", api.ErrWord)
	fails(t, "turn 1 trim x", api.ErrWord)
	readsBack(t, "turn -1 trim -1", api.Op{Kind: 3, Node: -1, Fault: api.Fault{Kind: 2, At: -1}})
	readsBack(t, "turn 0 trim 0", api.Op{Kind: 3, Fault: api.Fault{Kind: 2}})
	readsBack(t, "turn 0 flip 0 0", api.Op{Kind: 3, Fault: api.Fault{Kind: 3}})
	readsBack(t, "turn 0 forge 9223372036854775807 -9223372036854775808", api.Op{Kind: 3, Fault: api.Fault{Kind: 4, At: mostInt, Mask: leastInt}})
}

func TestNumbersThatAreRead(t *testing.T) {
	for _, n := range []int{0, 1, -1, 2, 9, 10, -10, 11, 99, 100, 101, 1000000, 1<<31 - 1, 1 << 31, -1 << 31, 1 << 32, 1 << 53, 1<<53 + 1, 1000000000000000000, mostInt - 1, mostInt, leastInt + 1, leastInt} {
		word := fmt.Sprint(n)
		readsBack(t, "deliver "+word, api.Op{Kind: 4, I: n})
		readsBack(t, "crash "+word+" 0 "+word, api.Op{Kind: 10, Node: n, J: n})
		readsBack(t, "build "+word+" 0 0 "+word, api.Op{Kind: 1, Job: api.Job{Version: n, FanIn: n}})
	}
}

func TestWordsThatAreNoNumbers(t *testing.T) {
	for _, word := range []string{
		"", "-", "--", "--1", "-0", "-00", "-01", "+0", "+1", "+", "00", "01", "007", "-1-", "1-", "1-1", "0-", "9223372036854775808", "-9223372036854775809", "9223372036854775817", "10000000000000000000", "18446744073709551616", "18446744073709551617", "-18446744073709551615", "99999999999999999999", "1a", "a1", "a", "0a", "0x1", "0b1", "0o7", "1_0", "1,0", "1.", ".1", "1.0", "1e3", "1\t", "\t1", "1\r", "\x001", "1\x00", "٣", "１", "1\xff", "\xff", "−1", "=1", "1=", "%31", "inf", "nil", "true", "-a", "- 1"[:1], strings.Repeat("0", 100), strings.Repeat("1", 100), "-" + strings.Repeat("9", 1000), strings.Repeat("9", 200000),
	} {
		fails(t, "deliver "+word, api.ErrWord)
		fails(t, "fuse 1 "+word, api.ErrWord)
		fails(t, "fuse "+word+" 1", api.ErrWord)
		fails(t, "build 1 2 "+word+" 4 a=b", api.ErrWord)
		fails(t, "turn "+word, api.ErrWord)
		fails(t, "turn 0 trim "+word, api.ErrWord)
	}
	for _, word := range []string{"- 1", "1 ", " 1", "1 0"} {
		fails(t, "deliver "+word, api.ErrWords)
	}
	for b := range 256 {
		if digit := b >= '0' && b <= '9'; !digit && b != ' ' && b != '\n' {
			fails(t, "deliver 1"+byteText(b), api.ErrWord)
			fails(t, "deliver 1"+byteText(b)+"1", api.ErrWord)
			if b != '-' {
				fails(t, "deliver "+byteText(b)+"1", api.ErrWord)
			}
		}
	}
}

func TestEachByteIsRead(t *testing.T) {
	for b := range 256 {
		text := byteText(b)
		word := asWritten(text)
		readsBack(t, "get ="+word, api.Op{Kind: 16, Key: text})
		readsBack(t, "get =a"+word+word+"0", api.Op{Kind: 16, Key: "a" + text + text + "0"})
		readsBack(t, "getall ="+word+" = ="+word+"-", api.Op{Kind: 17, Keys: []string{text, "", text + "-"}})
		readsBack(t, "build 0 0 0 0 "+word+"="+word+" k="+word+" "+word+"=", api.Op{Kind: 1, Pairs: []api.Pair{{Key: text, Value: text}, {Key: "k", Value: text}, {Key: text}}})
	}
}

// A byte has one way in which it is written.
func TestBytesThatAreWrittenOtherwise(t *testing.T) {
	wrong := []string{"%", "%4", "%g0", "%0g", "%0", "%%", "%%%", "%2", "% 0"[:1], "%0A", "%2F", "%FF", "%fF", "%Ff", "%AA", "%0G", "%G0", "%-1", "%+1", "%\x00\x00", "%0x", "%x0", "0%", "%25%", "%2%5", "%é", "%0é", "é", "\xff", "\xc3", "\xef\xbf\xbd", "\x00", "\t", "\r", "\v", "\"", "'", "+", "/", ":", ",", ";", "~", "*", "&", "?", "#", "@", "`", "{", "[", "^", "|", "\\", "(", "!", "$", "<", ">", "%/0", "%:0", "%@0", "%`0", "%0/", "%0:", "%0@", "%0`"}
	for b := range 256 {
		text := byteText(b)
		digits := fmt.Sprintf("%02x", b)
		if isAsItIs(b) {
			wrong = append(wrong, "%"+digits)
		} else if b != ' ' && b != '\n' && b != '=' {
			wrong = append(wrong, text)
		}
		if upper := strings.ToUpper(digits); upper != digits {
			wrong = append(wrong, "%"+upper)
		}
	}
	for _, word := range wrong {
		fails(t, "get ="+word, api.ErrWord)
		fails(t, "get =a"+word, api.ErrWord)
		fails(t, "get =%00"+word, api.ErrWord)
		fails(t, "getall =a ="+word+" =b", api.ErrWord)
		fails(t, "build 1 2 3 4 "+word+"=v", api.ErrWord)
		fails(t, "build 1 2 3 4 k="+word, api.ErrWord)
		fails(t, "build 1 2 3 4 a=b k="+word+" c=d", api.ErrWord)
	}
	for _, word := range []string{"% 0", "%2 0", "a b", " "} {
		fails(t, "get ="+word, api.ErrWords)
	}
}

func TestKeysAndPairs(t *testing.T) {
	readsBack(t, "get =", api.Op{Kind: 16})
	readsBack(t, "getall", api.Op{Kind: 17})
	readsBack(t, "getall =", api.Op{Kind: 17, Keys: []string{""}})
	readsBack(t, "getall = = =", api.Op{Kind: 17, Keys: []string{"", "", ""}})
	readsBack(t, "getall =b =a =b", api.Op{Kind: 17, Keys: []string{"b", "a", "b"}})
	readsBack(t, "build 1 2 3 4", api.Op{Kind: 1, Job: api.Job{Version: 1, Policy: 2, Memory: 3, FanIn: 4}})
	readsBack(t, "build 0 0 0 0 =", api.Op{Kind: 1, Pairs: []api.Pair{{}}})
	readsBack(t, "build 0 0 0 0 = k= =v k=v k=w", api.Op{Kind: 1, Pairs: []api.Pair{{}, {Key: "k"}, {Value: "v"}, {Key: "k", Value: "v"}, {Key: "k", Value: "w"}}})
	readsBack(t, "build 0 0 0 0 %3d=%3d", api.Op{Kind: 1, Pairs: []api.Pair{{Key: "=", Value: "="}}})
	readsBack(t, "get =%3d%20%0a%00%ff%25", api.Op{Kind: 16, Key: "= \n\x00\xff%"})
	for _, word := range []string{"a", "a=", "a=b", "==", "=a=", "=a=b", "-", "%3d", "%3da"} {
		fails(t, "get "+word, api.ErrWord)
		fails(t, "getall "+word, api.ErrWord)
		fails(t, "getall =a "+word, api.ErrWord)
		fails(t, "getall "+word+" =a", api.ErrWord)
	}
	for _, word := range []string{"a", "-", "%3d", "a%3db", "==", "a==", "a==b", "=a=", "a=b=", "a=b=c", "=="} {
		fails(t, "build 1 2 3 4 "+word, api.ErrWord)
		fails(t, "build 1 2 3 4 a=b "+word, api.ErrWord)
		fails(t, "build 1 2 3 4 "+word+" a=b", api.ErrWord)
	}
}

func TestWhichErrorOfALine(t *testing.T) {
	fails(t, "tock x", api.ErrOp)
	fails(t, "tock 1 2 3", api.ErrOp)
	fails(t, "tick x", api.ErrWords)
	fails(t, "deliver x y", api.ErrWords)
	fails(t, "build x y z", api.ErrWords)
	fails(t, "build x y z w a", api.ErrWord)
	fails(t, "get a b", api.ErrWords)
	fails(t, "turn x flop y z w", api.ErrWords)
	fails(t, "turn x flop y z", api.ErrWord)
	fails(t, "turn x lost y", api.ErrWords)
	refuses(t, "steps\ndeliver x\ntock\n", 2, api.ErrWord)
	refuses(t, "steps\ntick\ndeliver x\ntock\n", 3, api.ErrWord)
	refuses(t, "steps\ntock\ndeliver x\n", 2, api.ErrOp)
	refuses(t, "tock\nsteps\ntock\n", 3, api.ErrOp)
}

func TestLinesThatAreTooLong(t *testing.T) {
	for _, more := range []int{0, 1, 2, 100000} {
		size := 262144 + more
		for _, begin := range []string{"", "x", "#", "# ", "tick ", "tock ", "get =", "getall =", "build 1 2 3 4 =", "turn 1 lost ", " ", "deliver 1"} {
			line := begin + strings.Repeat("0", size-len(begin))
			if more > 0 {
				refuses(t, "steps\n"+line, 2, api.ErrLine)
				refuses(t, "steps\ntick\n#\n\n"+line+"\ntock\n", 5, api.ErrLine)
				continue
			}
			switch begin {
			case "get =":
				readsBack(t, line, api.Op{Kind: 16, Key: line[5:]})
			case "getall =":
				readsBack(t, line, api.Op{Kind: 17, Keys: []string{line[8:]}})
			case "build 1 2 3 4 =":
				readsBack(t, line, api.Op{Kind: 1, Job: api.Job{Version: 1, Policy: 2, Memory: 3, FanIn: 4}, Pairs: []api.Pair{{Value: line[15:]}}})
			case "#", "# ":
				parses(t, "steps\n"+line+"\ntick", "", ticks(1)...)
			case "tick ", "turn 1 lost ":
				refuses(t, "steps\n"+line, 2, api.ErrWords)
			case "deliver 1":
				refuses(t, "steps\n"+line, 2, api.ErrWord)
			default:
				refuses(t, "steps\n"+line, 2, api.ErrOp)
			}
		}
	}
	blanks := strings.Repeat(" ", 262144)
	refuses(t, "steps\n"+blanks, 2, api.ErrOp)
	refuses(t, "steps\ngetall"+blanks[6:], 2, api.ErrWord)
	refuses(t, "steps\ngetall"+blanks[5:], 2, api.ErrLine)
	parses(t, strings.Repeat("x", 300000)+"\nsteps\n", strings.Repeat("x", 300000)+"\n")
}

func TestStepsThatAreTooMany(t *testing.T) {
	full := "steps\n" + strings.Repeat("tick\n", 10000)
	parses(t, full, "", ticks(10000)...)
	parses(t, full[:len(full)-1], "", ticks(10000)...)
	parses(t, full+"\n\n#\n# tick\n\n#", "", ticks(10000)...)
	parses(t, "a\n"+full+strings.Repeat("#\n\n", 20000), "a\n", ticks(10000)...)
	parses(t, "steps\n"+strings.Repeat("# one\n\ntick\n", 10000), "", ticks(10000)...)
	refuses(t, "steps\n"+strings.Repeat("# one\n\ntick\n", 10001), 1+3*10001, api.ErrLines)
	for _, line := range []string{"tick", "tick\n", "tock", "tick 1", "deliver x", " ", " #", "\r", "get =%61", "turn 1 flop", "steps", "tick\ntick", strings.Repeat("x", 262144)} {
		refuses(t, full+line, 10002, api.ErrLines)
		refuses(t, "a\nb\n"+full+"\n#\n"+line, 10006, api.ErrLines)
	}
	refuses(t, full+strings.Repeat("x", 262145), 10002, api.ErrLine)
	refuses(t, full+"#"+strings.Repeat("x", 262144), 10002, api.ErrLine)
	refuses(t, full+"\n#\n"+strings.Repeat("x", 262145)+"\ntick", 10004, api.ErrLine)
	refuses(t, full+"tick\n"+strings.Repeat("x", 262145), 10002, api.ErrLines)
	refuses(t, "steps\n"+strings.Repeat("tick\n", 9999)+"tock\ntick\ntick\n", 10001, api.ErrOp)
	refuses(t, "steps\ntock\n"+full, 2, api.ErrOp)
}

func TestWhereTheDefinitionEnds(t *testing.T) {
	for _, text := range []string{"", "\n", " ", "a", "tick", "tick\n", "tick\ntick\n", "store s\n", "steps ", "steps \n", " steps", " steps\n", "steps\r\n", "steps\r", "\rsteps", "# steps", "# steps\n", "#steps\n", "Steps\n", "step\n", "stepss\n", "steps\x00", "steps\ttick\n", "tick steps\n", "steps tick\n", "\xef\xbb\xbfsteps\n", "\n\n\n", strings.Repeat("x", 262145), strings.Repeat("\n", 100000)} {
		refuses(t, text, 0, api.ErrText)
		if text != "" && !strings.HasSuffix(text, "\n") {
			text += "\n"
		}
		parses(t, text+"steps", text)
		parses(t, text+"steps\n", text)
		parses(t, text+"steps\ntick", text, ticks(1)...)
		parses(t, text+"steps\n\n\n\n", text)
		refuses(t, text+"steps\nsteps", strings.Count(text, "\n")+2, api.ErrOp)
		refuses(t, text+"steps\nsteps\n", strings.Count(text, "\n")+2, api.ErrOp)
		refuses(t, text+"steps\ntick\nsteps\ntick\n", strings.Count(text, "\n")+3, api.ErrOp)
		parses(t, text+"steps\n# steps\n#steps", text)
	}
}

func TestLinesAtTheEnd(t *testing.T) {
	parses(t, "steps\ntick", "", ticks(1)...)
	parses(t, "steps\ntick\n", "", ticks(1)...)
	parses(t, "steps\ntick\n\n", "", ticks(1)...)
	parses(t, "steps\ntick\n\n\n\n", "", ticks(1)...)
	parses(t, "steps\n\n\ntick\n\n\n\ntick", "", ticks(2)...)
	parses(t, "steps\n#\n# \n##\n#\r\n#\x00\xff\n#tick 1\ntick\n#", "", ticks(1)...)
	refuses(t, "steps\n\n\n\nx", 5, api.ErrOp)
	refuses(t, "steps\n\n\n\n ", 5, api.ErrOp)
	refuses(t, "steps\n\n\n\n \n\n", 5, api.ErrOp)
	refuses(t, "steps\n\r\n", 2, api.ErrOp)
	refuses(t, "steps\ntick\r\n", 2, api.ErrOp)
	refuses(t, "steps\ndeliver 1\r\n", 2, api.ErrWord)
	refuses(t, "steps\nlook\t\n", 2, api.ErrOp)
	refuses(t, "steps\r\ntick\n", 0, api.ErrText)
	many := strings.Repeat("\n#\n", 1_000_000)
	parses(t, "steps\n"+many+"tick", "", ticks(1)...)
	refuses(t, many+"steps\n"+many+"tock", 2+2*2*1_000_000, api.ErrOp)
}
