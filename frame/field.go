package frame

import (
	"strings"

	"granary/api"
	"granary/plain"
)

// field is one of a message's fields, its Kind aside, in the order in which they stand in a frame.
type field int

const (
	from field = iota
	to
	id
	epoch
	seq
	version
	prev
	code
	key
	value
)

const (
	fieldCount  = int(value) + 1
	shortBytes  = 2
	numberBytes = 8
	keyBytes    = 2 // the length of a key
	valueBytes  = 4 // the length of a value
	mostShort   = 1<<16 - 1
)

// shape is how a field stands in a frame, and what it may be.
type shape struct {
	width  int // bytes of the number, or of the length that stands ahead of a text
	most   int // the greatest number, or the greatest length
	isText bool
}

var shapes = [...]shape{
	from:    {shortBytes, mostShort, false},
	to:      {shortBytes, mostShort, false},
	id:      {numberBytes, api.MaxNumber, false},
	epoch:   {numberBytes, api.MaxNumber, false},
	seq:     {numberBytes, api.MaxNumber, false},
	version: {numberBytes, api.MaxNumber, false},
	prev:    {numberBytes, api.MaxNumber, false},
	code:    {shortBytes, mostShort, false},
	key:     {keyBytes, api.MaxKey, true},
	value:   {valueBytes, api.MaxValue, true},
}

// heads are the fields that every kind has, ahead of its body.
var heads = [...]field{from, to, id}

// bodies are each kind's other fields. What is written, what is read and what may be all go by this table, so that they cannot part.
var bodies = [...][]field{
	api.MsgPing:    {},
	api.MsgPong:    {},
	api.MsgFetch:   {epoch, version},
	api.MsgFetched: {epoch, version, code},
	api.MsgSwap:    {epoch, seq, version},
	api.MsgSwapped: {epoch, seq, version, prev, code},
	api.MsgBack:    {epoch, seq},
	api.MsgBacked:  {epoch, seq, version, prev, code},
	api.MsgAsk:     {},
	api.MsgTold:    {epoch, seq, version, prev, code},
	api.MsgGet:     {key},
	api.MsgGot:     {version, code, key, value},
	api.MsgSum:     {seq, version},
	api.MsgSummed:  {seq, version, prev, code, value},
	api.MsgScan:    {seq, version, prev},
	api.MsgScanned: {seq, version, prev, code, key, value},
}

// cell is what a field holds: a number, or a text.
type cell struct {
	number int
	text   string
}

// cells are a message's fields, each at its own place.
type cells [fieldCount]cell

func cellsOf(m api.Msg) cells {
	return cells{
		from:    {number: m.From},
		to:      {number: m.To},
		id:      {number: m.Id},
		epoch:   {number: m.Epoch},
		seq:     {number: m.Seq},
		version: {number: m.Version},
		prev:    {number: m.Prev},
		code:    {number: int(m.Code)},
		key:     {text: m.Key},
		value:   {text: m.Value},
	}
}

// message copies the texts: else a message would keep the whole stream in which it was found.
func message(kind int, all cells) api.Msg {
	return api.Msg{
		Kind:    kind,
		From:    all[from].number,
		To:      all[to].number,
		Id:      all[id].number,
		Epoch:   all[epoch].number,
		Seq:     all[seq].number,
		Version: all[version].number,
		Prev:    all[prev].number,
		Code:    api.Errno(all[code].number),
		Key:     strings.Clone(all[key].text),
		Value:   strings.Clone(all[value].text),
	}
}

// fit tells whether all fields are in their ranges. Of a field that a kind has not, 0 is the most.
func fit(kind int, all cells) bool {
	var most [fieldCount]int
	for _, f := range heads {
		most[f] = shapes[f].most
	}
	for _, f := range bodies[kind] {
		most[f] = shapes[f].most
	}
	for i, c := range all {
		if c.number < 0 || c.number > most[i] || len(c.text) > most[i] {
			return false
		}
	}
	return true
}

// write puts a field that fits behind out.
func (f field) write(out []byte, c cell) []byte {
	if shapes[f].isText {
		return append(plain.Put(out, len(c.text), shapes[f].width), c.text...)
	}
	return plain.Put(out, c.number, shapes[f].width)
}

// read takes a field from the beginning of a text, in its range or not (what eight bytes hold beyond an int comes out below 0, and fits no field), and tells what is left of the text; no, if not all of the field is there.
func (f field) read(text string) (cell, string, bool) {
	width := shapes[f].width
	if len(text) < width {
		return cell{}, "", false
	}
	n, rest := plain.Take(text[:width]), text[width:]
	if !shapes[f].isText {
		return cell{number: n}, rest, true
	}
	if len(rest) < n {
		return cell{}, "", false
	}
	return cell{text: rest[:n]}, rest[n:], true
}
