package paper

import (
	"strings"

	"granary/api"
)

// reader goes along a text.
type reader struct {
	text string
	at   int
}

func (r *reader) rest() string {
	return r.text[r.at:]
}

// skip goes past what must stand there.
func (r *reader) skip(wanted string) bool {
	if !strings.HasPrefix(r.rest(), wanted) {
		return false
	}
	r.at += len(wanted)
	return true
}

// take goes past what stands there up to the next blank or line feed.
func (r *reader) take() string {
	word := r.rest()
	if end := strings.IndexAny(word, " \n"); end >= 0 {
		word = word[:end]
	}
	r.at += len(word)
	return word
}

// read sets the fields, in their ranges or not, as long as the text has their form.
func (r *reader) read(table []field) bool {
	return walk(table, func(f field) bool {
		if !r.skip(f.word) {
			return false
		}
		v, ok := f.shape.read(r.take())
		f.set(v)
		return ok && r.skip(f.end)
	})
}

// close reads a paper's last line. That it is the last one belongs to the paper's form, so it is asked ahead of the sum.
func (r *reader) close() api.Errno {
	there, fits := r.unseal(sumLine)
	if !there || r.rest() != "" {
		return api.ErrForm
	}
	if !fits {
		return api.ErrSum
	}
	return api.OK
}
