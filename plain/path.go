package plain

import "strings"

// Under is the path of a name in a directory. The root has no name to put ahead.
func Under(dir, name string) string {
	if dir == "" {
		return name
	}
	return dir + "/" + name
}

// Parent is the path of the directory that a path's last name stands in.
func Parent(path string) string {
	return path[:max(strings.LastIndexByte(path, '/'), 0)]
}
