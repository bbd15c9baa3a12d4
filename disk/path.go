package disk

import (
	"strings"

	"granary/api"
)

const longest = api.MaxDepth*(api.MaxName+1) - 1

// Path joins names by '/'. The root is "".
func Path(names ...string) string {
	return strings.Join(names, "/")
}

// split gives a path's names (the root has none), and whether it is a path.
func split(path string) ([]string, bool) {
	if path == "" {
		return nil, true
	}
	if len(path) > longest { // so that no giant text is cut up in vain
		return nil, false
	}
	names := strings.Split(path, "/")
	if len(names) > api.MaxDepth {
		return nil, false
	}
	for _, name := range names {
		if !isName(name) {
			return nil, false
		}
	}
	return names, true
}

func isName(name string) bool {
	if name == "" || len(name) > api.MaxName || name == "." || name == ".." {
		return false
	}
	for i := range len(name) {
		if !isNameByte(name[i]) {
			return false
		}
	}
	return true
}

func isNameByte(b byte) bool {
	return 'a' <= b && b <= 'z' || '0' <= b && b <= '9' || b == '-' || b == '_' || b == '.'
}
