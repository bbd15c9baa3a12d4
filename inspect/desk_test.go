package inspect

import (
	"strconv"
	"strings"
	"testing"

	"granary/api"
	"granary/steward"
)

// P22.5

func logText(number, kind, version, outcome int) string {
	return sealed("granary job 1\nnumber " + strconv.Itoa(number) + "\nkind " + strconv.Itoa(kind) + "\nversion " + strconv.Itoa(version) + "\noutcome " + strconv.Itoa(outcome) + "\n")
}

// Each log that may be; each number at the ends of its range and past them.
func TestLogs(t *testing.T) {
	for _, number := range []int{0, 1, 2, 10, most - 1, most, most + 1, 9999999999999999} {
		for kind := range 5 {
			for _, version := range []int{0, 1, 7, last, last + 1} {
				for outcome := range 5 {
					fits := 1 <= number && number <= most
					if kind == 3 {
						fits = fits && version == 0 && outcome == 3
					} else {
						fits = fits && (kind == 1 || kind == 2) && 1 <= version && version <= last && outcome <= 3
					}
					want := f("job", isBroken, api.ErrField, 0, 0)
					switch {
					case fits && outcome == 0:
						want = f("job", isPartial, 0, version, number)
					case fits:
						want = f("job", isGood, 0, version, number)
					}
					text := logText(number, kind, version, outcome)
					deskIs(t, strconv.Quote(text), laid(t, "job="+text), want)
				}
			}
		}
	}
}

// What a Boot answers, by whoever reads it: the three errors of a text.
func TestNoLogs(t *testing.T) {
	good := logText(5, 1, 7, 0)
	count := map[api.Errno]int{}
	texts := []string{"", "\n", "x", good + "\n", good + good, "\n" + good, pointer(t, 0, 0, 0, 0)}
	for i := range good {
		texts = append(texts, good[:i], turned(good, i), good[:i]+good[i+1:], good[:i]+" "+good[i:])
	}
	for _, body := range []string{"granary job 2\nnumber 5", "granary job 1\nnumber 05", "granary job 1\nnumber ", "granary job 1\nnumber -5", "granary job 1\nnumber 12345678901234567"} {
		texts = append(texts, sealed(body+"\nkind 1\nversion 7\noutcome 0\n"))
	}
	for _, text := range texts {
		s, e := steward.New(east(), laid(t, "job="+text))
		done(t, e)
		_, want := s.Boot()
		count[want]++
		deskIs(t, strconv.Quote(text), laid(t, "job="+text), f("job", isBroken, want, 0, 0))
	}
	is(t, "none is read", count[api.OK], 0)
	is(t, "all of the form, or with another sum", count[api.ErrForm]+count[api.ErrSum], len(texts))
	is(t, "some with another sum", count[api.ErrSum] > 10, true)
	for text, want := range map[string]api.Errno{
		"":                                      api.ErrForm,
		good[:len(good)-1]:                      api.ErrForm,
		strings.Replace(good, "5", "05", 1):     api.ErrForm,
		strings.Replace(good, "5", "6", 1):      api.ErrSum,
		logText(5, 4, 7, 0):                     api.ErrField,
		turned(logText(5, 4, 7, 0), 21):         api.ErrSum,
		logText(5, 4, 7, 0) + "\n":              api.ErrForm,
		strings.Replace(good, "e 0", "e 00", 1): api.ErrForm,
	} {
		deskIs(t, strconv.Quote(text), laid(t, "job="+text), f("job", isBroken, want, 0, 0))
	}
}

func TestNewLogs(t *testing.T) {
	left := f("job.new", isLeft, 0, 0, 0)
	filled := f("job.new", isBroken, api.ErrFilled, 0, 0)
	for what, x := range map[string]struct {
		thing string
		want  api.Finding
	}{
		"an empty file":           {"job.new", left},
		"a part of a log":         {"job.new=granary job 1\nnum", left},
		"a log":                   {"job.new=" + logText(6, 1, 7, 0), left},
		"an empty directory":      {"job.new/", left},
		"a directory with a file": {"job.new/x", filled},
		"with a directory":        {"job.new/x/", filled},
		"with a log":              {"job.new/job=" + logText(6, 1, 7, 0), filled},
	} {
		deskIs(t, what, laid(t, x.thing), x.want)
		deskIs(t, what, laid(t, "job="+logText(5, 2, 7, 0), x.thing), f("job", isPartial, 0, 7, 5), x.want)
		deskIs(t, what, laid(t, "job="+logText(5, 2, 7, 2), x.thing), f("job", isGood, 0, 7, 5), x.want)
		deskIs(t, what, laid(t, "job=x", x.thing), f("job", isBroken, api.ErrForm, 0, 0), x.want)
		deskIs(t, what, laid(t, "job/", x.thing), f("job", isBroken, api.ErrKind, 0, 0), x.want)
	}
}

func TestDirectoriesForALog(t *testing.T) {
	for _, thing := range []string{"job/", "job/x", "job/job=" + logText(5, 1, 7, 0), "job/job.new/"} {
		deskIs(t, thing, laid(t, thing), f("job", isBroken, api.ErrKind, 0, 0))
	}
}

func TestDesksNames(t *testing.T) {
	for _, name := range []string{"jo", "job-", "job.", "job.ne", "job.new1", "job.new.", "job.old", "job1", "jobs", "xjob", "new", "log", "latest", "store", "build-1", "part-1", "gone-1", strings.Repeat("x", 40)} {
		for how := range 3 {
			d := fresh(t)
			three(t, d, how, name)
			deskIs(t, name, d, isNobodys(name))
		}
	}
	deskIs(t, "nothing", fresh(t))
	deskIs(t, "deeper", laid(t, "a/job="+logText(5, 1, 7, 0), "a/job.new"), isNobodys("a"))
}

// What a steward writes down.
func TestStewardsLogs(t *testing.T) {
	d := fresh(t)
	s, e := steward.New(east(), d)
	done(t, e)
	_, e = s.Boot()
	done(t, e)
	deskIs(t, "nothing begun", d)
	job := 0
	for _, x := range []struct{ kind, version int }{{1, 7}, {2, 6}, {3, 0}, {1, last}} {
		job++
		_, e := s.Begin(x.kind, x.version)
		done(t, e)
		if x.kind == 3 {
			deskIs(t, "a look", d, f("job", isGood, 0, 0, job))
		} else {
			deskIs(t, "begun", d, f("job", isPartial, 0, x.version, job))
		}
		for n := 0; s.Busy() && n < 1000; n++ {
			_, e := s.Tick()
			done(t, e)
		}
		is(t, "Busy", s.Busy(), false)
		deskIs(t, "ended", d, f("job", isGood, 0, x.version, job))
	}
}
