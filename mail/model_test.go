package mail

import "granary/api"

// The plain reading of the chapter: all letters that were ever set off, each with a word on whether it is in flight, and a list of all that was done to links.

type item struct {
	letter api.Letter
	gone   bool
}

type deed struct {
	a, b int
	cut  bool
}

type reading struct {
	limit int
	ever  []item
	deeds []deed
}

func readNew(limit int) (*reading, api.Errno) {
	if limit < 1 || limit > 1024 {
		return nil, api.ErrArg
	}
	return &reading{limit: limit}, api.OK
}

// places are where the letters in flight stand among all.
func (r *reading) places() []int {
	var out []int
	for i, x := range r.ever {
		if !x.gone {
			out = append(out, i)
		}
	}
	return out
}

func (r *reading) flying() []api.Letter {
	var out []api.Letter
	for _, i := range r.places() {
		out = append(out, r.ever[i].letter)
	}
	return out
}

// isCut goes by the last thing that was done to the link.
func (r *reading) isCut(a, b int) bool {
	for i := len(r.deeds) - 1; i >= 0; i-- {
		d := r.deeds[i]
		if d.a == a && d.b == b || d.a == b && d.b == a {
			return d.cut
		}
	}
	return false
}

func (r *reading) setOff(from, to int, frame string) int {
	id := len(r.ever) + 1
	r.ever = append(r.ever, item{letter: api.Letter{Id: id, From: from, To: to, Frame: frame}})
	return id
}

func (r *reading) send(from, to int, frame string) (int, api.Errno) {
	if from < 0 || from > 67 || to < 0 || to > 67 {
		return 0, api.ErrArg
	}
	if r.isCut(from, to) {
		return 0, api.ErrCut
	}
	if len(r.places()) == r.limit {
		return 0, api.ErrCrowd
	}
	return r.setOff(from, to, frame), api.OK
}

// find is the letter i, among all; nil: there is none.
func (r *reading) find(i int) *item {
	for n, place := range r.places() {
		if n == i {
			return &r.ever[place]
		}
	}
	return nil
}

func (r *reading) deliver(i int) (api.Letter, api.Errno) {
	x := r.find(i)
	if x == nil {
		return api.Letter{}, api.ErrNoLetter
	}
	if r.isCut(x.letter.From, x.letter.To) {
		return api.Letter{}, api.ErrCut
	}
	x.gone = true
	return x.letter, api.OK
}

func (r *reading) drop(i int) api.Errno {
	x := r.find(i)
	if x == nil {
		return api.ErrNoLetter
	}
	x.gone = true
	return api.OK
}

func (r *reading) double(i int) api.Errno {
	x := r.find(i)
	if x == nil {
		return api.ErrNoLetter
	}
	if len(r.places()) == r.limit {
		return api.ErrCrowd
	}
	r.setOff(x.letter.From, x.letter.To, x.letter.Frame)
	return api.OK
}

func (r *reading) link(a, b int, cut bool) api.Errno {
	if a < 0 || a > 67 || b < 0 || b > 67 || a == b {
		return api.ErrArg
	}
	r.deeds = append(r.deeds, deed{a, b, cut})
	return api.OK
}
