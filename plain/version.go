package plain

import (
	"strconv"
	"strings"

	"granary/api"
)

// The papers in a version's directory.
const (
	MetaName     = "meta"
	ManifestName = "manifest"
)

const versionDigits = 6 // of MaxVersion

// IsVersion tells whether a version may have that number.
func IsVersion(n int) bool { return n >= 1 && n <= api.MaxVersion }

// NameOf is a name that begins so and ends with a version's number.
func NameOf(begin string, version int) string { return begin + strconv.Itoa(version) }

// VersionOf reads such a name.
func VersionOf(begin, name string) (int, bool) {
	digits, ok := strings.CutPrefix(name, begin)
	if !ok {
		return 0, false
	}
	n, ok := Number(digits, versionDigits)
	if !ok || !IsVersion(n) {
		return 0, false
	}
	return n, true
}
