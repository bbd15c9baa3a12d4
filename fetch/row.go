package fetch

import (
	"slices"

	"granary/api"
	"granary/partial"
)

// current is the number of the first row that is not whole, or of all rows.
func (j *Job) current() int {
	at := slices.IndexFunc(j.held, func(h partial.Held) bool { return !h.Whole })
	if at < 0 {
		return len(j.held)
	}
	return at
}

// itemOf is what a row is called where its failures are counted.
func itemOf(at int) api.Item { return api.Item{File: at} }
