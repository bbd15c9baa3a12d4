package paper

import (
	"strconv"

	"granary/digest"
	"granary/plain"
)

// shape is how a field's value is written.
type shape int

const (
	aNumber shape = iota
	aSum
	anMD5
	aName
	aStore
)

const (
	greatestSum = 1<<32 - 1
	sumBytes    = 4
	md5Bytes    = 16
	mostDigits  = 16 // of a number
	nameLetters = plain.StoreLetters + "_."
)

// allows tells whether the value is in the range, and is such a name as the shape asks for.
func (s shape) allows(v value, low, high int) bool {
	size := v.number
	if !s.isNumeric() {
		size = len(v.text)
	}
	if size < low || size > high {
		return false
	}
	switch s {
	case aName:
		return isName(v.text)
	case aStore:
		return plain.IsStore(v.text)
	}
	return true
}

func (s shape) isNumeric() bool {
	return s == aNumber || s == aSum
}

// print writes a value that is allowed.
func (s shape) print(v value) string {
	switch s {
	case aNumber:
		return strconv.Itoa(v.number)
	case aSum:
		return printSum(v.number)
	case anMD5:
		return digest.Hex(v.text)
	}
	return v.text
}

// read is the value of a word, allowed or not, if it has the form.
func (s shape) read(word string) (value, bool) {
	switch s {
	case aNumber:
		n, ok := plain.Number(word, mostDigits)
		return value{number: n}, ok
	case aSum:
		n, ok := readSum(word)
		return value{number: n}, ok
	case anMD5:
		data, ok := readHex(word, md5Bytes)
		return value{text: data}, ok
	}
	return value{text: word}, word != ""
}
