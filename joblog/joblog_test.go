package joblog

import (
	"strings"
	"testing"

	"granary/api"
)

const open = "granary job 1\nnumber 1\nkind 1\nversion 7\noutcome 0\nsum f42a6ac6\n"

func TestText(t *testing.T) {
	j := Entry{Number: 1, Kind: 1, Version: 7, Outcome: Open}
	if got := j.Text(); got != open {
		t.Errorf("%q, want %q", got, open)
	}
	if !j.IsOpen() || (Entry{}).IsOpen() || (Entry{Number: 1, Kind: 1, Version: 7, Outcome: api.Restored}).IsOpen() {
		t.Error("a job is open till it has an outcome")
	}
}

func TestParse(t *testing.T) {
	for _, j := range []Entry{{1, 1, 7, 0}, {1, 2, 1, 1}, {2, 1, api.MaxVersion, 2}, {api.MaxNumber, 3, 0, 3}} {
		if got, e := Parse(j.Text()); got != j || e != api.OK {
			t.Errorf("%v: %v, %d", j, got, e)
		}
	}
	for _, j := range []Entry{{}, {0, 1, 7, 0}, {api.MaxNumber + 1, 1, 7, 0}, {1, 0, 7, 0}, {1, 4, 7, 0}, {1, 1, 0, 0}, {1, 2, api.MaxVersion + 1, 0}, {1, 1, 7, 4}, {1, 3, 7, 3}, {1, 3, 0, 0}} {
		refused(t, j.Text(), api.ErrField)
	}
	for text, want := range map[string]api.Errno{
		"":                                    api.ErrForm,
		open[:len(open)-1]:                    api.ErrForm,
		open + "\n":                           api.ErrForm,
		strings.Replace(open, " 7", " 07", 1): api.ErrForm,
		strings.Replace(open, "f4", "F4", 1):  api.ErrForm,
		strings.Replace(open, " 7", " 8", 1):  api.ErrSum,
		strings.Replace(open, "f4", "f5", 1):  api.ErrSum,
	} {
		refused(t, text, want)
	}
}

func refused(t *testing.T, text string, want api.Errno) {
	t.Helper()
	if got, e := Parse(text); got != (Entry{}) || e != want {
		t.Errorf("%q: %v, %d, want the error %d", text, got, e, want)
	}
}
