package builder

import (
	"granary/api"
	"granary/digest"
	"granary/disk"
	"granary/plain"
	"granary/record"
	"granary/ring"
	"granary/sorter"
)

// sortName is where a version's rows are sorted, in its directory.
const sortName = "sort"

// work is a build that is going on. What is refused in it is thrown.
type work struct {
	disk    *disk.Disk
	cluster api.Cluster
	job     api.Job
	dir     string // part-V

	rows *rows
	sums map[file]*digest.Hasher // of all files that were begun
	held []int                   // by node: how many pairs its files have
	kept int
}

// file is a file of one node.
type file struct {
	node int
	name string
}

func begin(d *disk.Disk, c api.Cluster, j api.Job) *work {
	return &work{
		disk:    d,
		cluster: c,
		job:     j,
		dir:     plain.NameOf(plain.PartBegin, j.Version),
		sums:    map[file]*digest.Hasher{},
		held:    make([]int, len(c.Nodes)),
	}
}

func (w *work) build(pairs []api.Pair) api.Built {
	must(w.disk.Mkdir(w.dir))
	s := w.sort(pairs)
	for node := range w.cluster.Nodes {
		must(w.disk.Mkdir(w.nodeDir(node)))
	}
	w.rows = read(s)
	for part := range plain.Parts(w.cluster) {
		w.partition(part)
	}
	must(s.Close())
	for node := range w.cluster.Nodes {
		w.papers(node)
	}
	must(w.disk.SyncDir(w.dir))
	must(w.disk.Rename(w.dir, plain.NameOf(plain.BuildBegin, w.job.Version)))
	must(w.disk.SyncDir(""))
	return w.tell(len(pairs))
}

// sort lets all pairs come into a sorter, by the place where each lies.
func (w *work) sort(pairs []api.Pair) *sorter.Sorter {
	s, e := sorter.New(w.disk, disk.Path(w.dir, sortName), w.job.Memory, w.job.FanIn)
	must(e)
	for _, p := range pairs {
		place, e := ring.Locate(w.cluster, p.Key)
		must(e)
		must(s.Add(chunkMark(place.Part, place.Chunk)+place.Hash, p.Key, p.Value))
	}
	must(s.Finish())
	return s
}

func (w *work) partition(part int) {
	owners, e := ring.Owners(w.cluster, part)
	must(e)
	for chunk := range w.cluster.Chunks {
		w.chunk(part, chunk, owners)
	}
}

// chunk writes the two files of a chunk for each of its owners.
func (w *work) chunk(part, chunk int, owners []int) {
	groups := w.rows.take(chunkMark(part, chunk), w.job.Policy)
	c, e := record.Encode(w.cluster.Width, groups)
	must(e)
	pairs := count(groups)
	w.kept += pairs
	for replica, node := range owners {
		f := api.File{Part: part, Replica: replica, Chunk: chunk}
		w.chunkFile(node, f, c.Index)
		f.Data = true
		w.chunkFile(node, f, c.Data)
		w.held[node] += pairs
	}
}

func (w *work) chunkFile(node int, f api.File, data string) {
	name, e := ring.FileName(f)
	must(e)
	w.write(node, name, data)
}

// write makes one file, safe with all its bytes, and lets its sums run along.
func (w *work) write(node int, name, data string) {
	path := disk.Path(w.nodeDir(node), name)
	sum := digest.NewHasher()
	w.sums[file{node, name}] = sum
	must(w.disk.Create(path))
	if data != "" {
		must(w.disk.Append(path, data))
		must(sum.Write(data))
	}
	must(w.disk.Sync(path))
}

func (w *work) nodeDir(node int) string { return disk.Path(w.dir, plain.NodeName(node)) }

// tell is what the build answers.
func (w *work) tell(pairs int) api.Built {
	built := api.Built{Pairs: pairs, Kept: w.kept, Files: len(w.sums)}
	for _, sum := range w.sums {
		built.Bytes += sum.Count()
	}
	return built
}
