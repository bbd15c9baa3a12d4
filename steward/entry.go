package steward

import (
	"strconv"
	"strings"

	"granary/api"
	"granary/digest"
	"granary/plain"
)

const (
	title      = "granary job 1\n"
	sumWord    = "sum "
	sumBytes   = 4
	hexDigits  = "0123456789abcdef"
	mostDigits = 16 // of a number
	open       = 0  // the outcome of a job that has not ended
)

// entry is what a log says of a job.
type entry struct {
	number, kind, version, outcome int
}

// begun is what is written of a job ahead of its first message. A look has nothing that could be taken back, so it is never open.
func begun(number, kind, version int) entry {
	j := entry{number: number, kind: kind, version: version, outcome: open}
	if kind == api.JobLook {
		j.outcome = api.Incomplete
	}
	return j
}

func (j entry) isOpen() bool { return j.number > 0 && j.outcome == open }

// fits tells whether all numbers are in their ranges.
func (j entry) fits() bool {
	if j.number < 1 || j.number > api.MaxNumber {
		return false
	}
	switch j.kind {
	case api.JobSwap, api.JobBack:
		return plain.IsVersion(j.version) && j.outcome >= open && j.outcome <= api.Incomplete
	case api.JobLook:
		return j.version == 0 && j.outcome == api.Incomplete
	}
	return false
}

// line is a number of a log, with the word ahead of it.
type line struct {
	word   string
	number *int
}

// lines are those between the title and the sum: what is written and what is read cannot part.
func (j *entry) lines() []line {
	return []line{
		{"number ", &j.number},
		{"kind ", &j.kind},
		{"version ", &j.version},
		{"outcome ", &j.outcome},
	}
}

// text is the log.
func (j entry) text() string {
	body := title
	for _, l := range j.lines() {
		body += l.word + strconv.Itoa(*l.number) + "\n"
	}
	sum := plain.Put(nil, digest.CRC(body), sumBytes)
	return body + sumWord + digest.Hex(string(sum)) + "\n"
}

// parse reads a log.
func parse(text string) (entry, api.Errno) {
	var j entry
	rest, ok := strings.CutPrefix(text, title)
	for _, l := range j.lines() {
		if ok {
			rest, ok = l.read(rest)
		}
	}
	switch {
	case !ok || !isSum(rest):
		return entry{}, api.ErrForm
	case text != j.text(): // there is one way to write the numbers, so it is the sum that differs
		return entry{}, api.ErrSum
	case !j.fits():
		return entry{}, api.ErrField
	}
	return j, api.OK
}

// read takes the number of a text's first line, if it is this line, and answers what stands behind it.
func (l line) read(text string) (string, bool) {
	text, begins := strings.CutPrefix(text, l.word)
	word, rest, ends := strings.Cut(text, "\n")
	number, ok := plain.Number(word, mostDigits)
	*l.number = number
	return rest, begins && ends && ok
}

// isSum tells whether a text is the line of a sum, of whatever bytes.
func isSum(text string) bool {
	digits, begins := strings.CutPrefix(text, sumWord)
	digits, ends := strings.CutSuffix(digits, "\n")
	return begins && ends && len(digits) == 2*sumBytes && plain.IsOf(digits, hexDigits)
}
