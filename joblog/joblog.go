// Package joblog has the text in which a steward writes down its last job: see DOC.md, layer 20.
package joblog

import (
	"strconv"
	"strings"

	"granary/api"
	"granary/digest"
	"granary/plain"
)

// The names on a steward's disk.
const (
	Name    = "job"
	NewName = "job.new" // where a log is written, ahead of taking the last one's place
)

const (
	title      = "granary job 1\n"
	sumWord    = "sum "
	sumBytes   = 4
	hexDigits  = "0123456789abcdef"
	mostDigits = 16 // of a number
)

// Open is the outcome of a job that has not ended.
const Open = 0

// Entry is what a log says of a job.
type Entry struct {
	Number, Kind, Version, Outcome int
}

// IsOpen tells whether there is a job that has not ended.
func (j Entry) IsOpen() bool { return j.Number > 0 && j.Outcome == Open }

// fits tells whether all numbers are in their ranges.
func (j Entry) fits() bool {
	if j.Number < 1 || j.Number > api.MaxNumber {
		return false
	}
	switch j.Kind {
	case api.JobSwap, api.JobBack:
		return plain.IsVersion(j.Version) && j.Outcome >= Open && j.Outcome <= api.Incomplete
	case api.JobLook:
		return j.Version == 0 && j.Outcome == api.Incomplete
	}
	return false
}

// line is a number of a log, with the word ahead of it.
type line struct {
	word   string
	number *int
}

// lines are those between the title and the sum: what is written and what is read cannot part.
func (j *Entry) lines() []line {
	return []line{
		{"number ", &j.Number},
		{"kind ", &j.Kind},
		{"version ", &j.Version},
		{"outcome ", &j.Outcome},
	}
}

// Text is the log.
func (j Entry) Text() string {
	body := title
	for _, l := range j.lines() {
		body += l.word + strconv.Itoa(*l.number) + "\n"
	}
	sum := plain.Put(nil, digest.CRC(body), sumBytes)
	return body + sumWord + digest.Hex(string(sum)) + "\n"
}

// Parse reads a log.
func Parse(text string) (Entry, api.Errno) {
	var j Entry
	rest, ok := strings.CutPrefix(text, title)
	for _, l := range j.lines() {
		if ok {
			rest, ok = l.read(rest)
		}
	}
	switch {
	case !ok || !isSum(rest):
		return Entry{}, api.ErrForm
	case text != j.Text(): // there is one way to write the numbers, so it is the sum that differs
		return Entry{}, api.ErrSum
	case !j.fits():
		return Entry{}, api.ErrField
	}
	return j, api.OK
}

// read takes the number of a text's first line, if it is this line, and answers what stands behind it.
func (l line) read(text string) (string, bool) {
	text, begins := strings.CutPrefix(text, l.word)
	word, rest, ends := strings.Cut(text, "\n")
	number, ok := plain.Number(word, mostDigits)
	*l.number = number
	return rest, begins && ends && ok
}

// isSum tells whether a text is the line of a sum, of whatever bytes.
func isSum(text string) bool {
	digits, begins := strings.CutPrefix(text, sumWord)
	digits, ends := strings.CutSuffix(digits, "\n")
	return begins && ends && len(digits) == 2*sumBytes && plain.IsOf(digits, hexDigits)
}
