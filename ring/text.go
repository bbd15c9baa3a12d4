package ring

import (
	"strconv"
	"strings"

	"granary/api"
	"granary/plain"
)

const (
	mostText   = 65536 // bytes of a definition
	mostDigits = 10    // of a number in it

	storeWord = "store"
	nodeWord  = "node"
	zoneWord  = "zone"
	partsWord = "parts"
)

// Print writes a definition.
func Print(c api.Cluster) (string, api.Errno) {
	if errno := Check(c); errno != api.OK {
		return "", errno
	}
	var out strings.Builder
	line := func(words ...string) {
		out.WriteString(strings.Join(words, " ") + "\n")
	}
	line(storeWord, c.Store)
	for _, s := range settings(&c) {
		line(s.word, strconv.Itoa(*s.field))
	}
	for i, n := range c.Nodes {
		words := []string{nodeWord, strconv.Itoa(i), zoneWord, strconv.Itoa(n.Zone), partsWord}
		for _, part := range n.Parts {
			words = append(words, strconv.Itoa(part))
		}
		line(words...)
	}
	return out.String(), api.OK
}

// Parse reads a definition; with an error it tells the line, from 1 on (0: no line of its own).
func Parse(text string) (api.Cluster, api.Errno, int) {
	if len(text) > mostText {
		return api.Cluster{}, api.ErrBig, 0
	}
	s := said{numbers: map[string]int{}}
	for i, line := range strings.Split(text, "\n") { // a last line that is empty says nothing, so it may stand for none
		if errno := s.line(line); errno != api.OK {
			return api.Cluster{}, errno, i + 1
		}
	}
	c, errno := s.cluster()
	return c, errno, 0
}

// said is what a definition's lines have said.
type said struct {
	store   string         // "" till it is there, for no line says that
	numbers map[string]int // by the setting's word
	nodes   []api.NodeDef
}

func (s *said) line(line string) api.Errno {
	if line == "" || line[0] == '#' {
		return api.OK
	}
	words := strings.Split(line, " ")
	switch words[0] {
	case storeWord:
		return s.name(words)
	case nodeWord:
		return s.node(words)
	}
	return s.setting(words)
}

func (s *said) name(words []string) api.Errno {
	if len(words) != 2 || words[1] == "" {
		return api.ErrText
	}
	if s.store != "" {
		return api.ErrTwice
	}
	s.store = strings.Clone(words[1])
	return api.OK
}

func (s *said) setting(words []string) api.Errno {
	if len(words) != 2 || !isSetting(words[0]) {
		return api.ErrText
	}
	n, ok := plain.Number(words[1], mostDigits)
	if !ok {
		return api.ErrText
	}
	if _, twice := s.numbers[words[0]]; twice {
		return api.ErrTwice
	}
	s.numbers[words[0]] = n
	return api.OK
}

func (s *said) node(words []string) api.Errno {
	if len(words) < 5 || words[2] != zoneWord || words[4] != partsWord {
		return api.ErrText
	}
	number, isNumber := plain.Number(words[1], mostDigits)
	zone, isZone := plain.Number(words[3], mostDigits)
	parts, areParts := readParts(words[5:])
	if !isNumber || !isZone || !areParts || number != len(s.nodes) {
		return api.ErrText
	}
	s.nodes = append(s.nodes, api.NodeDef{Zone: zone, Parts: parts})
	return api.OK
}

func readParts(words []string) ([]int, bool) {
	var parts []int
	for _, word := range words {
		part, ok := plain.Number(word, mostDigits)
		if !ok {
			return nil, false
		}
		parts = append(parts, part)
	}
	return parts, true
}

// cluster is that of which the lines told, if they lack nothing and it is valid.
func (s *said) cluster() (api.Cluster, api.Errno) {
	c := api.Cluster{Store: s.store, Nodes: s.nodes}
	for _, x := range settings(&c) {
		n, there := s.numbers[x.word]
		if !there {
			return api.Cluster{}, api.ErrLacks
		}
		*x.field = n
	}
	if c.Store == "" {
		return api.Cluster{}, api.ErrLacks
	}
	if errno := Check(c); errno != api.OK {
		return api.Cluster{}, errno
	}
	return c, api.OK
}
