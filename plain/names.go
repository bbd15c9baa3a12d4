package plain

import "strconv"

// The names of a node's store. Those that end with a dash have a version's number behind it.
const (
	StoreName     = "store"
	LatestName    = "latest"     // the pointer
	NewLatestName = "latest.new" // a pointer that is being written
	VersionBegin  = "version-"
	FetchBegin    = "fetch-"
	TrashBegin    = "trash-"
)

// How the names in the root of the build repository begin.
const (
	PartBegin  = "part-"
	BuildBegin = "build-"
	GoneBegin  = "gone-"
)

// NodeName is the name of a node's directory in that of a version that was built.
func NodeName(node int) string { return "node-" + strconv.Itoa(node) }
