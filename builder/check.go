package builder

import (
	"granary/api"
	"granary/plain"
	"granary/ring"
)

const (
	leastFan = 2
	mostFan  = 16
)

// Check tells whether a dataset is valid.
func Check(j api.Job, pairs []api.Pair) api.Errno {
	if e := checkJob(j); e != api.OK {
		return e
	}
	if len(pairs) > api.MaxPairs {
		return api.ErrCount
	}
	for _, p := range pairs {
		if e := checkPair(p); e != api.OK {
			return e
		}
	}
	if bytesOf(pairs) > api.MaxBytes {
		return api.ErrBig
	}
	if j.Policy == api.KeepNone && repeats(pairs) {
		return api.ErrRepeat
	}
	return api.OK
}

func checkJob(j api.Job) api.Errno {
	if !plain.IsVersion(j.Version) {
		return api.ErrVersion
	}
	if j.Policy < api.KeepLast || j.Policy > api.KeepNone {
		return api.ErrPolicy
	}
	if j.Memory < 1 || j.Memory > api.MaxDisk || j.FanIn < leastFan || j.FanIn > mostFan {
		return api.ErrArg
	}
	return api.OK
}

func checkPair(p api.Pair) api.Errno {
	if p.Key == "" || len(p.Key) > api.MaxKey {
		return api.ErrKey
	}
	if len(p.Value) > api.MaxValue {
		return api.ErrValue
	}
	return api.OK
}

// bytesOf is how many bytes all keys and values have.
func bytesOf(pairs []api.Pair) int {
	sum := 0
	for _, p := range pairs {
		sum += len(p.Key) + len(p.Value)
	}
	return sum
}

// repeats tells whether a key stands in two pairs.
func repeats(pairs []api.Pair) bool {
	keys := map[string]struct{}{}
	for _, p := range pairs {
		keys[p.Key] = struct{}{}
	}
	return len(keys) < len(pairs)
}

// What a build needs room for, in bytes: a pair's entry in an index and its record beyond hash, key and value; a row of the sorter beyond the same; the lines that a chunk's two files have in a manifest; the rest of a node's papers.
const (
	pairRoom  = 12
	rowRoom   = 18
	chunkRoom = 160
	nodeRoom  = 512
)

// Need is the bytes of room that a build asks for.
func Need(c api.Cluster, j api.Job, pairs []api.Pair) (int, api.Errno) {
	if e := ring.Check(c); e != api.OK {
		return 0, e
	}
	if e := Check(j, pairs); e != api.OK {
		return 0, e
	}
	sum := c.Width*len(pairs) + bytesOf(pairs)
	files := c.Replicas*(sum+pairRoom*len(pairs)) + chunkRoom*plain.Parts(c)*c.Replicas*c.Chunks + nodeRoom*len(c.Nodes)
	runs := 2 * (sum + rowRoom*len(pairs)) // the sorter's are all rows, and what it merges of them
	return files + runs, api.OK
}
