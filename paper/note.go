package paper

import "granary/api"

// PrintNote writes a line of a journal.
func PrintNote(n api.Note) (string, api.Errno) {
	table := noteTable(&n)
	if !fit(table) {
		return "", api.ErrField
	}
	return sealed(written(table), sumWord), api.OK
}

// ParseNotes reads the longest beginning of a text that is whole good lines, and tells its length.
func ParseNotes(text string) ([]api.Note, int) {
	var notes []api.Note
	good := 0
	for {
		note, size := readNote(text[good:])
		if size == 0 {
			return notes, good
		}
		notes = append(notes, note)
		good += size
	}
}

// readNote is the note with which a text begins, and the length of its line; 0, if it begins with none.
func readNote(text string) (api.Note, int) {
	var n api.Note
	table := noteTable(&n)
	r := reader{text: text}
	if !r.read(table) {
		return api.Note{}, 0
	}
	if _, fits := r.unseal(sumWord); !fits || !fit(table) {
		return api.Note{}, 0
	}
	return n, r.at
}

func noteTable(n *api.Note) []field {
	return []field{
		{"", aNumber, api.NoteBegin, api.NoteWhole, func() value { return value{number: n.Kind} }, func(v value) { n.Kind = v.number }, " "},
		{"", aNumber, 0, api.MaxNumber, func() value { return value{number: n.File} }, func(v value) { n.File = v.number }, " "},
		{"", aNumber, 0, api.MaxNumber, func() value { return value{number: n.Upto} }, func(v value) { n.Upto = v.number }, " "},
		{"", aSum, 0, greatestSum, func() value { return value{number: n.Crc} }, func(v value) { n.Crc = v.number }, " "},
	}
}
