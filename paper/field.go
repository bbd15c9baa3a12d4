package paper

import "strings"

// value is what a field holds: a number, or a text.
type value struct {
	number int
	text   string
}

// field is a place in a paper at which a value stands. The functions reach into the struct that the paper tells of.
type field struct {
	word      string // stands ahead of the value, with its blank; may be empty
	shape     shape
	low, high int // the range: of the number, or of the text's length
	get       func() value
	set       func(value)
	end       string // stands behind the value
}

// walk goes over a table's fields, till one does not please. What is printed and what is read both go by it, so that they cannot part.
func walk(table []field, pleases func(field) bool) bool {
	for _, f := range table {
		if !pleases(f) {
			return false
		}
	}
	return true
}

// fit tells whether all fields are in their ranges.
func fit(table []field) bool {
	return walk(table, func(f field) bool {
		return f.shape.allows(f.get(), f.low, f.high)
	})
}

// written is the text of fields that fit.
func written(table []field) string {
	var out strings.Builder
	walk(table, func(f field) bool {
		out.WriteString(f.word + f.shape.print(f.get()) + f.end)
		return true
	})
	return out.String()
}
