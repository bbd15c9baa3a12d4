package builder

import (
	"strconv"
	"strings"

	"granary/plain"
)

// How the names of a version begin in the root.
const (
	isPart  = "part-"
	isBuilt = "build-"
	isGone  = "gone-"
)

const sortName = "sort"

const versionDigits = 6 // of MaxVersion

// nameOf is a version's name in the root.
func nameOf(begin string, version int) string { return begin + strconv.Itoa(version) }

// versionOf reads such a name.
func versionOf(begin, name string) (int, bool) {
	digits, ok := strings.CutPrefix(name, begin)
	if !ok {
		return 0, false
	}
	n, ok := plain.Number(digits, versionDigits)
	return n, ok && plain.IsVersion(n)
}

// nodeName is the name of a node's directory.
func nodeName(node int) string { return "node-" + strconv.Itoa(node) }
