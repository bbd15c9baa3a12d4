package builder

import "strconv"

// How the names of a version begin in the root.
const (
	isPart  = "part-"
	isBuilt = "build-"
	isGone  = "gone-"
)

const sortName = "sort"

// nodeName is the name of a node's directory.
func nodeName(node int) string { return "node-" + strconv.Itoa(node) }
