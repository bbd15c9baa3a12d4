package script

import (
	"errors"
	"fmt"
	"strings"
	"testing"

	"granary/api"
)

// P18.5 (that every error of Parse is a *LineError that wraps Refused, refuses holds of each text that any test refuses)

func TestWordsOfALineError(t *testing.T) {
	for want, e := range map[string]LineError{
		"line 0: code 0":       {},
		"line 3: code 180":     {3, api.ErrWord},
		"line 0: code 60":      {0, api.ErrText},
		"line 10002: code 184": {10002, api.ErrLines},
		"line -1: code -7":     {-1, -7},
		"line 9223372036854775807: code -9223372036854775808": {mostInt, api.Errno(leastInt)},
		"line -9223372036854775808: code 9223372036854775807": {leastInt, api.Errno(mostInt)},
	} {
		is(t, "Error", e.Error(), want)
		is(t, "Unwrap", e.Unwrap(), Refused)
		is(t, "Is", errors.Is(&e, Refused), true)
		is(t, "Is of a wrapped one", errors.Is(fmt.Errorf("play: %w", &e), Refused), true)
	}
}

func TestLineErrorThatIsNotThere(t *testing.T) {
	var none *LineError
	is(t, "Error", none.Error(), "")
	is(t, "Unwrap", none.Unwrap(), Refused)
	var err error = none
	is(t, "Is", errors.Is(err, Refused), true)
	var found *LineError
	is(t, "As", errors.As(err, &found), true)
	is(t, "found", found, none)
}

func TestRefusedIsOne(t *testing.T) {
	is(t, "its words", Refused.Error(), "the text is refused")
	is(t, "another of the same words", errors.Is(&LineError{}, errors.New("the text is refused")), false)
	is(t, "Refused is no LineError", errors.As(Refused, new(*LineError)), false)
}

func TestErrorsOfParse(t *testing.T) {
	long := strings.Repeat("x", 262145)
	for _, c := range []struct {
		text string
		line int
		code api.Errno
	}{
		{"", 0, 60}, {"steps\nx", 2, 182}, {"a\nsteps\ntick 1", 3, 181}, {"\n\nsteps\n\ndrop x", 5, 180}, {"steps\n" + long, 2, 183}, {"steps\n" + strings.Repeat("stop\n", 10001), 10002, 184},
	} {
		refuses(t, c.text, c.line, c.code)
	}
	_, err := Parse("steps\ntick")
	if err != nil {
		t.Errorf("without an error: %v", err)
	}
}

// What is done to an error makes no difference to another.
func TestErrorsAreNew(t *testing.T) {
	_, a := Parse("tick")
	_, b := Parse("tick")
	var x, y *LineError
	if !errors.As(a, &x) || !errors.As(b, &y) || x == y {
		t.Fatalf("%v, %v", a, b)
	}
	*x = LineError{7, 7}
	is(t, "the other", *y, LineError{0, 60})
	refuses(t, "tick", 0, 60)
}
