package steward

import (
	"fmt"
	"regexp"
	"slices"
	"strconv"
	"strings"
	"testing"

	"granary/api"
	"granary/joblog"
)

// The log: what is written, byte by byte, and what is read (P20.3).

// Each kind and outcome, as the chapter writes it; the sums were reckoned elsewhere.
func TestLogsByteByByte(t *testing.T) {
	for _, x := range []struct {
		number, kind, version, outcome int
		sum                            string
	}{
		{1, 1, 7, 0, "f42a6ac6"},
		{1, 1, 7, 1, "ed315b87"},
		{1, 1, 7, 2, "c61c0844"},
		{1, 1, 7, 3, "df073905"},
		{2, 2, 4, 0, "1fc47e1a"},
		{2, 2, 4, 1, "06df4f5b"},
		{2, 2, 4, 2, "2df21c98"},
		{2, 2, 4, 3, "34e92dd9"},
		{3, 3, 0, 3, "43c0ab42"},
		{9007199254740992, 1, 999999, 0, "1b0e8bb6"},
		{9007199254740992, 3, 0, 3, "072697f0"},
		{10, 2, 1, 1, "9fdd2ade"},
	} {
		want := "granary job 1\n" +
			"number " + strconv.Itoa(x.number) + "\n" +
			"kind " + strconv.Itoa(x.kind) + "\n" +
			"version " + strconv.Itoa(x.version) + "\n" +
			"outcome " + strconv.Itoa(x.outcome) + "\n" +
			"sum " + x.sum + "\n"
		is(t, "the log of these tests", logText(x.number, x.kind, x.version, x.outcome), want)
		j := joblog.Entry{Number: x.number, Kind: x.kind, Version: x.version, Outcome: x.outcome}
		is(t, "what is written", j.Text(), want)
		got, e := joblog.Parse(want)
		is(t, "what is read", e, api.OK)
		is(t, "what is read", got, j)
	}
}

// What stewards write on their disks, of each kind and outcome.
func TestLogsThatAreWritten(t *testing.T) {
	for _, s := range stations() {
		b := s.at(t, east())
		if s.phase == "" && s.ended == 0 {
			continue
		}
		switch {
		case s.phase == look:
			safeLogIs(t, b.d, s.job, 3, 0, 3)
		case s.phase != "" && s.job < 5:
			safeLogIs(t, b.d, s.job, s.kind, s.version, 0)
		case s.name == "succeeded":
			safeLogIs(t, b.d, 1, 1, 7, 1)
		case s.name == "restored":
			safeLogIs(t, b.d, 1, 2, 4, 2)
		case s.name == "incomplete":
			safeLogIs(t, b.d, 1, 2, 4, 3)
		case s.name == "looked":
			safeLogIs(t, b.d, 1, 3, 0, 3)
		}
	}
}

// form is a log's, in one pattern.
var form = regexp.MustCompile(`\A(granary job 1\nnumber (0|[1-9][0-9]{0,15})\nkind (0|[1-9][0-9]{0,15})\nversion (0|[1-9][0-9]{0,15})\noutcome (0|[1-9][0-9]{0,15})\n)sum ([0-9a-f]{8})\n\z`)

// plainly reads a log by the chapter's words.
func plainly(text string) (joblog.Entry, api.Errno) {
	parts := form.FindStringSubmatch(text)
	if parts == nil {
		return joblog.Entry{}, api.ErrForm
	}
	if sealed(parts[1]) != text {
		return joblog.Entry{}, api.ErrSum
	}
	var n [4]int
	for i := range n {
		n[i], _ = strconv.Atoi(parts[2+i])
	}
	j := joblog.Entry{Number: n[0], Kind: n[1], Version: n[2], Outcome: n[3]}
	for _, ok := range []bool{
		1 <= j.Number && j.Number <= most,
		1 <= j.Kind && j.Kind <= 3,
		j.Kind == 3 && j.Version == 0 || j.Kind != 3 && 1 <= j.Version && j.Version <= last,
		j.Kind == 3 && j.Outcome == 3 || j.Kind != 3 && 0 <= j.Outcome && j.Outcome <= 3,
	} {
		if !ok {
			return joblog.Entry{}, api.ErrField
		}
	}
	return j, api.OK
}

// readIs holds what comes of a log at Boot, with a file job.new beside it.
func readIs(t *testing.T, text string, want api.Errno) {
	t.Helper()
	j, e := plainly(text)
	if e != want {
		t.Errorf("the plain reading of %q: %d, want %d", text, e, want)
	}
	d := fresh(t, 100+len(text))
	put(t, d, "job", text)
	put(t, d, "job.new", "left")
	b := over(t, east(), d)
	if want != api.OK {
		still(t, fmt.Sprintf("%q", text), d, func() { bootGives(t, b, text, nil, want) })
		is(t, "Up", b.Up(), false)
		return
	}
	var list []api.Msg
	if j.Outcome == 0 {
		list = messages(back, 3, j.Number, 0)
	}
	costs(t, fmt.Sprintf("%q", text), d, 2, func() { bootGives(t, b, text, list, api.OK) })
	is(t, "Up", b.Up(), true)
	is(t, "Busy", b.Busy(), j.Outcome == 0)
}

func bootGives(t *testing.T, b *bench, text string, want []api.Msg, wantErrno api.Errno) {
	t.Helper()
	list, e := b.Boot()
	if e != wantErrno || !slices.Equal(list, want) {
		t.Errorf("Boot with %q: %+v, %d, want %+v, %d", text, list, e, want, wantErrno)
	}
}

// with is the open log {5, 1, 7, 0} with a part of it changed, and the sum of what is then there, if it still has one.
func with(old, new string) string {
	body := "granary job 1\nnumber 5\nkind 1\nversion 7\noutcome 0\n"
	return sealed(strings.Replace(body, old, new, 1))
}

func TestLogsOfAnotherForm(t *testing.T) {
	good := logText(5, 1, 7, 0)
	readIs(t, good, api.OK)
	lines := strings.SplitAfter(good, "\n")[:6]
	for i, line := range lines {
		without := strings.Join(slices.Delete(slices.Clone(lines), i, i+1), "")
		readIs(t, without, api.ErrForm)
		readIs(t, strings.Join(slices.Insert(slices.Clone(lines), i, line), ""), api.ErrForm)
		readIs(t, strings.Join(slices.Insert(slices.Clone(lines), i, "\n"), ""), api.ErrForm)
		readIs(t, strings.Join(slices.Insert(slices.Clone(lines), i, "more 1\n"), ""), api.ErrForm)
		words := strings.TrimSuffix(line, "\n")
		value := line[strings.LastIndex(line, " ")+1:]
		for _, other := range []string{
			words, words + "\r\n", words + " \n", " " + line, value, " " + value, "word " + value,
			strings.Replace(line, " ", "  ", 1), strings.Replace(line, " ", "", 1), strings.Replace(line, " ", "\t", 1),
			strings.ToUpper(line), strings.ToUpper(line[:1]) + line[1:],
		} {
			spoilt := slices.Clone(lines)
			spoilt[i] = other
			readIs(t, strings.Join(spoilt, ""), api.ErrForm)
			if i < 5 {
				readIs(t, sealed(strings.Join(spoilt[:5], "")), api.ErrForm)
			}
		}
		if i > 0 { // two lines that have changed their places
			spoilt := slices.Clone(lines)
			spoilt[i-1], spoilt[i] = spoilt[i], spoilt[i-1]
			readIs(t, strings.Join(spoilt, ""), api.ErrForm)
		}
	}
	for i := range good {
		readIs(t, good[:i], api.ErrForm)
	}
	for _, more := range []string{"\n", " ", "x", "\x00", good, "sum 00000000\n"} {
		readIs(t, good+more, api.ErrForm)
		readIs(t, more+good, api.ErrForm)
	}
	for _, other := range []string{"", "granary job 2\n", "granary latest 1\n", "granary job 01\n", "granary  job 1\n"} {
		readIs(t, with("granary job 1\n", other), api.ErrForm)
	}
}

// The numbers as they may be written, each in each line.
func TestLogsNumbers(t *testing.T) {
	for _, line := range []string{"number 5", "kind 1", "version 7", "outcome 0"} {
		word := strings.Fields(line)[0] + " "
		for _, number := range []string{"", "05", "00", "01", "-1", "+1", "-0", "1 ", " 1", "1_0", "0x1", "1.0", "1e3", "x", "٣", "1\x00", "/", ":", strings.Repeat("1", 17), "10000000000000000", "0000000000000001", strings.Repeat("9", 40)} {
			readIs(t, with(line, word+number), api.ErrForm)
		}
		readIs(t, with(line, strings.TrimSpace(word)), api.ErrForm)
		for _, number := range []string{"9999999999999999", "1000000000000000", "9007199254740993"} {
			readIs(t, with(line, word+number), map[bool]api.Errno{true: api.OK, false: api.ErrField}[line == "number 5" && number[0] == '1'])
		}
	}
	readIs(t, with("number 5", "number 9007199254740992"), api.OK)
}

// The sums as they may be written: of each other number of digits, with capitals; and those that do not fit.
func TestLogsSums(t *testing.T) {
	good := logText(5, 1, 7, 0)
	body, digits := good[:50], good[54:62]
	for n := range 20 {
		text := body + "sum " + strings.Repeat("a", n) + "\n"
		readIs(t, text, map[bool]api.Errno{true: api.ErrSum, false: api.ErrForm}[n == 8])
	}
	readIs(t, body+"sum "+digits[1:]+"\n", api.ErrForm)
	readIs(t, body+"sum 0"+digits+"\n", api.ErrForm)
	for i := range digits {
		for x := range 256 {
			text := good[:54+i] + string([]byte{byte(x)}) + good[55+i:]
			want := api.ErrForm
			switch {
			case text == good:
				want = api.OK
			case '0' <= x && x <= '9' || 'a' <= x && x <= 'f':
				want = api.ErrSum
			}
			readIs(t, text, want)
		}
	}
	// A sum that has letters, with one of them a capital.
	for outcome := range 4 {
		for number := range 20 {
			text := logText(1+number, 1, 7, outcome)
			upper := strings.ToUpper(text[len(text)-9:])
			if want := text[:len(text)-9] + upper; want != text {
				readIs(t, want, api.ErrForm)
			}
		}
	}
	// The sum of the lines without their last end, of all with the word sum, of nothing.
	for _, other := range []string{body[:len(body)-1], body + "sum ", "", good, body[14:]} {
		sum := sealed(other)
		readIs(t, body+sum[len(sum)-13:], api.ErrSum)
	}
	// Another outcome, or another number, with the sum as it was.
	for _, x := range [][2]string{{"outcome 0", "outcome 1"}, {"number 5", "number 6"}, {"kind 1", "kind 2"}, {"version 7", "version 8"}, {"number 5", "number 50"}} {
		readIs(t, strings.Replace(good, x[0], x[1], 1), api.ErrSum)
	}
}

// Each number at the ends of its range and past them, of each kind.
func TestLogsRanges(t *testing.T) {
	for _, x := range []struct {
		number, kind, version, outcome int
		want                           api.Errno
	}{
		{0, 1, 7, 0, api.ErrField}, {1, 1, 7, 0, api.OK}, {most, 1, 7, 0, api.OK}, {most + 1, 1, 7, 0, api.ErrField},
		{0, 3, 0, 3, api.ErrField}, {1, 3, 0, 3, api.OK}, {most, 3, 0, 3, api.OK}, {most + 1, 3, 0, 3, api.ErrField},
		{5, 0, 7, 0, api.ErrField}, {5, 1, 7, 0, api.OK}, {5, 2, 7, 0, api.OK}, {5, 3, 0, 3, api.OK}, {5, 4, 7, 0, api.ErrField}, {5, 4, 0, 3, api.ErrField}, {5, 0, 0, 3, api.ErrField},
		{5, 1, 0, 0, api.ErrField}, {5, 1, 1, 0, api.OK}, {5, 1, last, 0, api.OK}, {5, 1, last + 1, 0, api.ErrField},
		{5, 2, 0, 1, api.ErrField}, {5, 2, 1, 1, api.OK}, {5, 2, last, 1, api.OK}, {5, 2, last + 1, 1, api.ErrField},
		{5, 3, 0, 3, api.OK}, {5, 3, 1, 3, api.ErrField}, {5, 3, last, 3, api.ErrField},
		{5, 1, 7, 0, api.OK}, {5, 1, 7, 1, api.OK}, {5, 1, 7, 2, api.OK}, {5, 1, 7, 3, api.OK}, {5, 1, 7, 4, api.ErrField},
		{5, 2, 7, 0, api.OK}, {5, 2, 7, 1, api.OK}, {5, 2, 7, 2, api.OK}, {5, 2, 7, 3, api.OK}, {5, 2, 7, 4, api.ErrField},
		{5, 3, 0, 0, api.ErrField}, {5, 3, 0, 1, api.ErrField}, {5, 3, 0, 2, api.ErrField}, {5, 3, 0, 3, api.OK}, {5, 3, 0, 4, api.ErrField},
		{0, 0, 0, 0, api.ErrField}, {9999999999999999, 9999999999999999, 9999999999999999, 9999999999999999, api.ErrField},
	} {
		readIs(t, logText(x.number, x.kind, x.version, x.outcome), x.want)
	}
}

// Where more than one thing is wrong: the form goes first, then the sum, then the ranges.
func TestLogsWithTwoFaults(t *testing.T) {
	field := logText(5, 4, 7, 0)                           // a number out of its range
	sum := field[:54] + flipped(field[54:62]) + "\n"       // and a sum that does not fit
	formed := strings.Replace(sum, "kind 4", "kind 04", 1) // and a number that is none
	readIs(t, field, api.ErrField)
	readIs(t, sum, api.ErrSum)
	readIs(t, formed, api.ErrForm)
	readIs(t, sum+"\n", api.ErrForm)
	readIs(t, field+"\n", api.ErrForm)
	readIs(t, sealed(strings.Replace(field[:50], "kind 4", "kind 04", 1)), api.ErrForm)
	// A directory job.new that cannot be removed, too: the log goes first.
	for text, want := range map[string]api.Errno{field: api.ErrField, sum: api.ErrSum, formed: api.ErrForm, logText(5, 1, 7, 0): api.ErrFilled} {
		d := fresh(t, roomy)
		put(t, d, "job", text)
		done(t, d.Mkdir("job.new"), d.Create("job.new/x"))
		b := over(t, east(), d)
		still(t, "Boot", d, func() { b.bootFails(t, want) })
		down(t, d)
		b.bootFails(t, api.ErrDown)
	}
}

// flipped is a sum with its first digit changed.
func flipped(digits string) string {
	if digits[0] == '0' {
		return "1" + digits[1:]
	}
	return "0" + digits[1:]
}

// One byte changed, taken away or put in, at each place: read as the plain reading does, and never taken for a log.
func TestLogsWithOneByteSpoilt(t *testing.T) {
	for _, good := range []string{logText(5, 1, 7, 0), logText(most, 2, last, 2), logText(12, 3, 0, 3)} {
		for i := range len(good) + 1 {
			for x := range 256 {
				put := string([]byte{byte(x)})
				texts := []string{good[:i] + put + good[i:]}
				if i < len(good) {
					texts = append(texts, good[:i]+put+good[i+1:], good[:i]+good[i+1:])
				}
				for _, text := range texts {
					j, e := joblog.Parse(text)
					want, f := plainly(text)
					if j != want || e != f || e == api.OK && text != good {
						t.Fatalf("%q: %v, %d, want %v, %d", text, j, e, want, f)
					}
				}
			}
		}
	}
}

// Texts drawn by lot, near to logs, against the plain reading.
func TestLogsByLot(t *testing.T) {
	lot := dice(2003)
	counts := map[api.Errno]int{}
	number := func() string {
		return oneOf(&lot, "0", "1", "2", "3", "4", "7", "999999", "1000000", "9007199254740992", "9007199254740993", "00", "07", "-1", "", "12345678901234567")
	}
	good := func(low, high int) string { return strconv.Itoa(low + lot.roll(high-low+1)) }
	for range 60000 {
		n, k, v, o := good(1, 9), good(1, 3), good(0, 9), good(0, 3)
		for range lot.roll(3) {
			*oneOf(&lot, &n, &k, &v, &o) = number()
		}
		text := sealed("granary job 1\nnumber " + n + "\nkind " + k + "\nversion " + v + "\noutcome " + o + "\n")
		for range lot.roll(4) / 2 {
			at := lot.roll(len(text))
			text = text[:at] + oneOf(&lot, "", "\n", " ", "0", "1", "a", "sum ") + text[at+lot.roll(2):]
		}
		j, e := joblog.Parse(text)
		want, f := plainly(text)
		if j != want || e != f {
			t.Fatalf("%q: %v, %d, want %v, %d", text, j, e, want, f)
		}
		if e == api.OK && j.Text() != text {
			t.Fatalf("%q is written as %q", text, j.Text())
		}
		counts[e]++
	}
	for _, e := range []api.Errno{api.OK, api.ErrForm, api.ErrSum, api.ErrField} {
		if counts[e] < 1000 {
			t.Errorf("%d: %d times", e, counts[e])
		}
	}
}
