package ring

import (
	"slices"
	"strconv"
	"strings"

	"granary/api"
)

const (
	dataEnding  = "data"
	indexEnding = "index"
)

// title is a file's name, cut into its words.
type title struct {
	part, replica, chunk, ending string
}

func titleOf(f api.File) title {
	ending := indexEnding
	if f.Data {
		ending = dataEnding
	}
	return title{strconv.Itoa(f.Part), strconv.Itoa(f.Replica), strconv.Itoa(f.Chunk), ending}
}

// cut finds the words of a name. Where it lacks a mark that stands between two of them, the words behind that are empty, as those of a file never are.
func cut(name string) title {
	part, rest, _ := strings.Cut(name, "_")
	replica, rest, _ := strings.Cut(rest, "_")
	chunk, ending, _ := strings.Cut(rest, ".")
	return title{part, replica, chunk, ending}
}

func (t title) name() string {
	return t.part + "_" + t.replica + "_" + t.chunk + "." + t.ending
}

// file is the one that a title would be of, if it is of one: a word that is no number counts as any, since the file's own title has another word there.
func (t title) file() api.File {
	part, _ := strconv.Atoi(t.part)
	replica, _ := strconv.Atoi(t.replica)
	chunk, _ := strconv.Atoi(t.chunk)
	return api.File{Part: part, Replica: replica, Chunk: chunk, Data: t.ending == dataEnding}
}

// mayBe tells whether a cluster can have such a file.
func mayBe(f api.File) bool {
	return f.Part >= 0 && f.Part < api.MaxParts &&
		f.Replica >= 0 && f.Replica < api.MaxNodes &&
		f.Chunk >= 0 && f.Chunk < api.MaxChunks
}

// FileName is the name of a chunk's index or data.
func FileName(f api.File) (string, api.Errno) {
	if !mayBe(f) {
		return "", api.ErrArg
	}
	return titleOf(f).name(), api.OK
}

// ReadName reads one.
func ReadName(name string) (api.File, api.Errno) {
	t := cut(name)
	f := t.file()
	if !mayBe(f) || titleOf(f) != t {
		return api.File{}, api.ErrName
	}
	return f, api.OK
}

// Files is the names of a node's chunk files, by rising names.
func Files(c api.Cluster, node int) ([]string, api.Errno) {
	slots, errno := Holds(c, node)
	if errno != api.OK {
		return nil, errno
	}
	var names []string
	for _, s := range slots {
		for chunk := range c.Chunks {
			index := api.File{Part: s.Part, Replica: s.Replica, Chunk: chunk}
			data := index
			data.Data = true
			names = append(names, titleOf(index).name(), titleOf(data).name())
		}
	}
	slices.Sort(names)
	return names, api.OK
}
