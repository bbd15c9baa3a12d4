package paper

import (
	"fmt"
	"slices"
	"strings"
	"testing"

	"granary/api"
)

// P4.5

func TestEachKindOfNote(t *testing.T) {
	var notes []api.Note
	journal := ""
	for kind := 1; kind <= 4; kind++ {
		n := api.Note{Kind: kind, File: 10 * kind, Upto: 100 * kind, Crc: 1<<32 - kind}
		notes = append(notes, n)
		line := noteOf(fmt.Sprintf("%d %d %d fffffff%x ", kind, 10*kind, 100*kind, 16-kind))
		printsNote(t, n, line, api.OK)
		journal += line
	}
	readsNotes(t, journal, notes, len(journal))
	readsNotes(t, journal+journal, append(slices.Clone(notes), notes...), 2*len(journal))
}

func TestJournalCutAnywhere(t *testing.T) {
	notes := []api.Note{{Kind: 1, File: 7, Crc: 0xabcdef01}, {Kind: 2, Upto: 64, Crc: 3}, {Kind: 2, File: 12, Upto: 9007199254740992}, {Kind: 4}}
	journal := ""
	var ends []int
	for _, n := range notes {
		journal += noteText(n)
		ends = append(ends, len(journal))
	}
	for i := range len(journal) + 1 {
		whole, upto := 0, 0
		for whole < len(ends) && ends[whole] <= i {
			upto = ends[whole]
			whole++
		}
		readsNotes(t, journal[:i], notes[:whole], upto)
	}
}

func TestJournalSpoiltAnywhere(t *testing.T) {
	notes := []api.Note{{Kind: 1, File: 7, Crc: 0xabcdef01}, {Kind: 2, Upto: 64, Crc: 3}, {Kind: 3, File: 9007199254740992}}
	journal := ""
	for i, n := range notes {
		ahead := journal
		line := noteText(n)
		journal += line
		behind := ""
		for _, n := range notes[i+1:] {
			behind += noteText(n)
		}
		for at := range len(line) {
			for b := range 256 {
				if byte(b) != line[at] {
					readsNotes(t, ahead+line[:at]+string([]byte{byte(b)})+line[at+1:]+behind, notes[:i], len(ahead))
				}
			}
			readsNotes(t, ahead+line[:at]+line[at+1:]+behind, notes[:i], len(ahead))
		}
	}
}

func TestLinesThatAreNoNotes(t *testing.T) {
	good := noteOf("2 1 64 000000ff ")
	note := []api.Note{{Kind: 2, File: 1, Upto: 64, Crc: 255}}
	sum := good[len(good)-9 : len(good)-1]
	bad := []string{
		"\n", " ", "x", "\n" + good, " " + good, "\x00" + good, strings.ToUpper(good), strings.ReplaceAll(good, " ", "\t"), strings.ReplaceAll(good, " ", "  "),
		"2 1 64 000000ff \n", "2 1 64 000000ff\n", "2 1 64 000000ff " + sum, "2 1 64 000000ff " + sum + " ", "2 1 64 000000ff " + sum + " \n", "2 1 64 000000ff " + sum + "\r\n", "2 1 64 000000ff  " + sum + "\n", "2 1 64 000000ff " + sum + "0\n", "2 1 64 000000ff " + sum[1:] + "\n", "2 1 64 000000ff " + strings.ToUpper(sum) + "x\n", "2 1 64 000000ff sum " + sum + "\n",
		noteOf("2 1 64 "), noteOf("2 1 000000ff "), noteOf("2 1 64 64 000000ff "), noteOf("2 1 64 000000ff 000000ff "), noteOf("note 2 1 64 000000ff "), noteOf("2 1 64 000000FF "), noteOf("2 1 64 0000000ff "), noteOf("2 1 64 00000ff "), noteOf("2 1 64 000000ff"), noteOf(""), noteOf(" "), noteOf("2 1 64\n000000ff "), noteOf("2\n1 64 000000ff "), noteOf("2 1 64 000000ff\n"),
		noteOf("0 1 64 000000ff "), noteOf("5 1 64 000000ff "), noteOf("22 1 64 000000ff "), noteOf("2 9007199254740993 64 000000ff "), noteOf("2 1 9007199254740993 000000ff "), noteOf("2 9999999999999999 64 000000ff "), noteOf("2 1 9999999999999999 000000ff "), noteOf("9999999999999999 1 64 000000ff "),
		fmt.Sprintf("2 1 64 000000ff %08x\n", crc("2 1 64 000000ff")), fmt.Sprintf("2 1 64 000000ff sum %08x\n", crc("2 1 64 000000ff ")),
	}
	for _, number := range badNumbers {
		bad = append(bad, noteOf(number+" 1 64 000000ff "), noteOf("2 "+number+" 64 000000ff "), noteOf("2 1 "+number+" 000000ff "))
	}
	for _, number := range badSums {
		bad = append(bad, noteOf("2 1 64 "+number+" "), "2 1 64 000000ff "+number+"\n")
	}
	for _, line := range bad {
		readsNotes(t, line, nil, 0)
		readsNotes(t, line+good, nil, 0)
		readsNotes(t, good+line, note, len(good))
		readsNotes(t, good+line+good, note, len(good))
	}
}

// A sum in capital digits is none, whatever letters it has.
func TestNotesWithCapitalDigits(t *testing.T) {
	for upto := range 100 {
		line := noteOf("2 0 " + decimal(upto) + " 00000000 ")
		if spoilt := strings.ToUpper(line); spoilt != line {
			readsNotes(t, spoilt, nil, 0)
		}
		readsNotes(t, line, []api.Note{{Kind: 2, Upto: upto}}, len(line))
	}
}

func TestLongJournal(t *testing.T) {
	var notes []api.Note
	var out strings.Builder
	for i := range 20000 {
		n := api.Note{Kind: 1 + i%4, File: i, Upto: 3 * i, Crc: i * 7919 % (1 << 32)}
		notes = append(notes, n)
		out.WriteString(noteText(n))
	}
	journal := out.String()
	readsNotes(t, journal, notes, len(journal))
	readsNotes(t, journal+"2 ", notes, len(journal))
}
