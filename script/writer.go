package script

import (
	"strconv"
	"strings"

	"granary/api"
	"granary/plain"
)

// writer writes a line's words one after the other, each with a blank ahead of it.
type writer struct {
	text strings.Builder
	room int // bytes that may still come; below 0 more came, and the text is none
}

// put keeps nothing beyond the room: a line that is far too long takes up no more than one that is not.
func (w *writer) put(text string) {
	w.room -= len(text)
	if w.room >= 0 {
		w.text.WriteString(text)
	}
}

func (w *writer) numbers(list ...int) {
	for _, n := range list {
		w.put(" " + strconv.Itoa(n))
	}
}

// take writes the numbers of these fields, and leaves 0 there.
func (w *writer) take(from []*int) {
	for _, field := range from {
		w.numbers(*field)
		*field = 0
	}
}

// list writes a list of numbers as one word.
func (w *writer) list(list []int) { w.put(" " + plain.ListOf(list)) }

func (w *writer) key(key string) {
	w.put(" =")
	w.bytes(key)
}

func (w *writer) pairs(list []api.Pair) {
	for _, p := range list {
		w.put(" ")
		w.bytes(p.Key)
		w.put("=")
		w.bytes(p.Value)
	}
}

// bytes writes those that are written as they are in runs. Where there is no room, what is left makes no difference.
func (w *writer) bytes(text string) {
	from := 0
	for i := 0; i < len(text) && w.room >= 0; i++ {
		if !isPlain(rune(text[i])) {
			w.put(text[from:i])
			w.put(escaped(text[i]))
			from = i + 1
		}
	}
	w.put(text[from:])
}
