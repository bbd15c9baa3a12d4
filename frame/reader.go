package frame

import (
	"strings"

	"granary/api"
)

// Reader finds frames in a stream that comes in pieces. Its fields are the program's own business.
type Reader struct {
	held    string // may still become a frame, from its first byte on
	skipped int
}

// NewReader is one to which nothing has come.
func NewReader() *Reader {
	return &Reader{}
}

// Feed lets more bytes come, and gives the messages that are whole by now.
func (r *Reader) Feed(s string) ([]api.Msg, api.Errno) {
	if r == nil {
		return nil, api.ErrNil
	}
	var told []api.Msg
	rest := r.held + s
	// What may still begin a frame is no whole one yet: so it may be asked first.
	for rest != "" && !mayBegin(rest) {
		m, size := first(rest)
		if size == 0 {
			r.skipped++
			rest = rest[1:]
			continue
		}
		told = append(told, m)
		rest = rest[size:]
	}
	r.held = strings.Clone(rest) // else all that came would be kept with it
	return told, api.OK
}

// Close tells that nothing more comes, and gives the messages that are left.
func (r *Reader) Close() []api.Msg {
	if r == nil {
		return nil
	}
	var told []api.Msg
	r.skipped += len(r.held)
	for _, p := range Split(r.held) {
		told = append(told, p.M)
		r.skipped -= p.Size
	}
	r.held = ""
	return told
}

// Skipped is how many bytes belonged to no frame.
func (r *Reader) Skipped() int {
	if r == nil {
		return 0
	}
	return r.skipped
}
