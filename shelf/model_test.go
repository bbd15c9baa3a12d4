package shelf

import (
	"crypto/md5"
	"encoding/binary"
	"fmt"
	"hash/crc32"
	"maps"
	"slices"
	"strings"
	"testing"

	"granary/api"
	"granary/disk"
	"granary/paper"
	"granary/record"
	"granary/ring"
)

// A plain reading of the chapter: a directory is made of pairs, and held against them, in memory. The program is held against it.

func plainParts(c api.Cluster) int {
	n := 0
	for _, node := range c.Nodes {
		n += len(node.Parts)
	}
	return n
}

// plainOwners walks round the ring.
func plainOwners(c api.Cluster, part int) []int {
	at := map[int]int{}
	for n, node := range c.Nodes {
		for _, p := range node.Parts {
			at[p] = n
		}
	}
	var owners []int
	for i := 0; len(owners) < c.Replicas; i++ {
		if n := at[(part+i)%len(at)]; !slices.Contains(owners, n) {
			owners = append(owners, n)
		}
	}
	return owners
}

func plainLocate(c api.Cluster, key string) api.Place {
	sum := md5.Sum([]byte(key))
	part := binary.BigEndian.Uint32(sum[:4]) % uint32(plainParts(c))
	chunk := binary.BigEndian.Uint32(sum[4:8]) % uint32(c.Chunks)
	return api.Place{Part: int(part), Chunk: int(chunk), Hash: string(sum[16-c.Width:])}
}

// plainChunk is the bytes of an index and its data, of pairs with the hash that each lies under.
func plainChunk(list []api.Pair, hashOf func(string) string) api.Chunk {
	groups := map[string][]api.Pair{}
	for _, p := range list {
		groups[hashOf(p.Key)] = append(groups[hashOf(p.Key)], p)
	}
	var index, data []byte
	for _, hash := range slices.Sorted(maps.Keys(groups)) {
		index = append(index, hash...)
		index = binary.BigEndian.AppendUint32(index, uint32(len(data)))
		data = binary.BigEndian.AppendUint16(data, uint16(len(groups[hash])))
		slices.SortFunc(groups[hash], func(a, b api.Pair) int { return strings.Compare(a.Key, b.Key) })
		for _, p := range groups[hash] {
			data = binary.BigEndian.AppendUint16(data, uint16(len(p.Key)))
			data = binary.BigEndian.AppendUint32(data, uint32(len(p.Value)))
			data = append(data, p.Key+p.Value...)
		}
	}
	return api.Chunk{Index: string(index), Data: string(data)}
}

func hashIn(c api.Cluster) func(string) string {
	return func(key string) string { return plainLocate(c, key).Hash }
}

// box is a directory in memory: its files by their names, those of the given cluster, node and version.
type box struct {
	c             api.Cluster
	node, version int
	files         map[string]string
}

// plainSlot is a chunk that a node holds, with how its files' names begin.
type plainSlot struct {
	part, chunk int
	name        string
}

// plainSlots is what a node holds, by partition, then by chunk.
func plainSlots(c api.Cluster, node int) []plainSlot {
	var out []plainSlot
	for part := range plainParts(c) {
		replica := slices.Index(plainOwners(c, part), node)
		for chunk := range c.Chunks {
			if replica >= 0 {
				out = append(out, plainSlot{part, chunk, fmt.Sprintf("%d_%d_%d", part, replica, chunk)})
			}
		}
	}
	return out
}

// plainIn is the pairs of one chunk, by hash, then by key.
func plainIn(c api.Cluster, list []api.Pair, part, chunk int) []api.Pair {
	var out []api.Pair
	for _, p := range list {
		if at := plainLocate(c, p.Key); at.Part == part && at.Chunk == chunk {
			out = append(out, p)
		}
	}
	slices.SortFunc(out, func(a, b api.Pair) int {
		return strings.Compare(plainLocate(c, a.Key).Hash+a.Key, plainLocate(c, b.Key).Hash+b.Key)
	})
	return out
}

// boxOf is the directory of a dataset.
func boxOf(c api.Cluster, node, version int, list []api.Pair) box {
	b, rows := box{c, node, version, map[string]string{}}, 0
	for _, x := range plainSlots(c, node) {
		in := plainIn(c, list, x.part, x.chunk)
		b.chunk(x.name, plainChunk(in, hashIn(c)))
		rows += len(in)
	}
	b.meta(func(m *api.Meta) { m.Rows = rows })
	b.seal()
	return b
}

func (b box) chunk(name string, c api.Chunk) {
	b.files[name+".index"], b.files[name+".data"] = c.Index, c.Data
}

// closed is a paper with its sum.
func closed(text string) string {
	return text + fmt.Sprintf("sum %08x\n", crc32.ChecksumIEEE([]byte(text)))
}

// meta writes the meta file anew, with some of what it says changed. What paper would not print is written too.
func (b box) meta(change func(*api.Meta)) {
	m := api.Meta{Store: b.c.Store, Version: b.version, Node: b.node, Parts: plainParts(b.c), Replicas: b.c.Replicas, Width: b.c.Width, Chunks: b.c.Chunks}
	if old, e := paper.ParseMeta(b.files["meta"]); e == 0 {
		m.Rows = old.Rows
	}
	change(&m)
	b.files["meta"] = closed(fmt.Sprintf("granary meta 1\nstore %s\nversion %d\nnode %d\nparts %d\nreplicas %d\nwidth %d\nchunks %d\nrows %d\n",
		m.Store, m.Version, m.Node, m.Parts, m.Replicas, m.Width, m.Chunks, m.Rows))
}

// fitting is the manifest that fits the files.
func (b box) fitting() api.Manifest {
	m := api.Manifest{Store: b.c.Store, Version: b.version, Node: b.node}
	for _, name := range slices.Sorted(maps.Keys(b.files)) {
		if name != "manifest" {
			m.Files = append(m.Files, rowOf(name, b.files[name]))
		}
	}
	return m
}

func rowOf(name, data string) api.FileRow {
	sum := md5.Sum([]byte(data))
	return api.FileRow{Name: name, Size: len(data), Crc: int(crc32.ChecksumIEEE([]byte(data))), Md5: string(sum[:])}
}

// seal writes the manifest anew, with some of what it says changed; its totals always fit its rows.
func (b box) seal(changes ...func(*api.Manifest)) {
	m := b.fitting()
	for _, change := range changes {
		change(&m)
	}
	m.Total, m.Whole = 0, 0
	out := fmt.Sprintf("granary manifest 1\nstore %s\nversion %d\nnode %d\nfiles %d\n", m.Store, m.Version, m.Node, len(m.Files))
	for _, f := range m.Files {
		out += fmt.Sprintf("file %s %d %08x %x\n", f.Name, f.Size, f.Crc, f.Md5)
		m.Total += f.Size
		m.Whole = joined(m.Whole, f.Crc, f.Size)
	}
	b.files["manifest"] = closed(out + fmt.Sprintf("total %d\nwhole %08x\n", m.Total, m.Whole))
}

// joined is the CRC of two texts one behind the other: that of the second one, xor what 8 steps for each of its bytes make of the first one's.
func joined(first, second, length int) int {
	for range 8 * length {
		first = first>>1 ^ first&1*0xedb88320
	}
	return first ^ second
}

func (b box) copy() box {
	b.files = maps.Clone(b.files)
	return b
}

// names are all files' names, rising.
func (b box) names() []string { return slices.Sorted(maps.Keys(b.files)) }

// lay is a new disk with the directory on it.
func (b box) lay(t *testing.T, dir string) *disk.Disk {
	t.Helper()
	d := fresh(t, 1<<24)
	b.on(t, d, dir)
	return d
}

// on lays the directory on a disk.
func (b box) on(t *testing.T, d *disk.Disk, dir string) {
	t.Helper()
	if dir != "" {
		put(t, d, dir+"/", "")
		dir += "/"
	}
	for name, data := range b.files {
		put(t, d, dir+name, data)
	}
}

// opened is a shelf of the directory, on a disk of its own.
func (b box) opened(t *testing.T) (*Shelf, *disk.Disk) {
	t.Helper()
	d := b.lay(t, "v")
	return opens(t, d, "v", b.c, b.node, b.version), d
}

// refused holds that the directory is refused with that error.
func (b box) refused(t *testing.T, what string, want api.Errno) {
	t.Helper()
	refuses(t, what, b.lay(t, "v"), "v", b.c, b.node, b.version, want)
}

// plainAll is all pairs that a node has of a dataset, in All's order.
func plainAll(c api.Cluster, node int, list []api.Pair) []api.Pair {
	var out []api.Pair
	for _, x := range plainSlots(c, node) {
		out = append(out, plainIn(c, list, x.part, x.chunk)...)
	}
	return out
}

// plainScan is a partition's pairs of a dataset.
func plainScan(c api.Cluster, node int, list []api.Pair, part int) ([]api.Pair, api.Errno) {
	if part < 0 || part >= plainParts(c) {
		return nil, api.ErrPart
	}
	if !slices.Contains(plainOwners(c, part), node) {
		return nil, api.ErrForeign
	}
	var out []api.Pair
	for chunk := range c.Chunks {
		out = append(out, plainIn(c, list, part, chunk)...)
	}
	return out, 0
}

// readsAs holds all that a shelf answers against a dataset.
func readsAs(t *testing.T, s *Shelf, c api.Cluster, node int, list []api.Pair) {
	t.Helper()
	all := plainAll(c, node, list)
	is(t, "Count", s.Count(), len(all))
	allIs(t, s, all)
	for part := -1; part <= plainParts(c); part++ {
		want, e := plainScan(c, node, list, part)
		scanIs(t, s, part, want, e)
	}
	for _, p := range list {
		if _, e := plainScan(c, node, nil, plainLocate(c, p.Key).Part); e != 0 {
			getIs(t, s, p.Key, "", false, e)
			getIs(t, s, p.Key+"-", "", false, absent(c, node, p.Key+"-"))
			continue
		}
		getIs(t, s, p.Key, p.Value, true, 0)
		getIs(t, s, p.Key+"-", "", false, absent(c, node, p.Key+"-"))
	}
}

// absent is what Get answers of a key that stands nowhere.
func absent(c api.Cluster, node int, key string) api.Errno {
	_, e := plainScan(c, node, nil, plainLocate(c, key).Part)
	return e
}

// plainOpen is P9.1 of a directory on a disk that is up.
func plainOpen(d *disk.Disk, dir string, c api.Cluster, node, version int) api.Errno {
	if e := ring.Check(c); e != 0 {
		return e
	}
	if node < 0 || node >= len(c.Nodes) {
		return api.ErrNode
	}
	if version < 1 || version > 999999 {
		return api.ErrVersion
	}
	if _, e := d.List(dir); e != 0 {
		return e
	}
	belong := []string{"manifest", "meta"}
	for _, x := range plainSlots(c, node) {
		belong = append(belong, x.name+".index", x.name+".data")
	}
	files, extra := map[string]string{}, false
	for _, x := range d.Dump() {
		name, ok := strings.CutPrefix(x.Path, dir+"/")
		if ok && x.Kind == api.IsFile && slices.Contains(belong, name) {
			files[name] = x.Data
		} else if ok && !strings.Contains(name, "/") {
			extra = true
		}
	}
	switch {
	case len(files) < len(belong):
		return api.ErrMissing
	case extra:
		return api.ErrExtra
	}
	return plainPapers(box{c, node, version, files})
}

// plainPapers is the third to sixth point of P9.1.
func plainPapers(b box) api.Errno {
	m, e := paper.ParseManifest(b.files["manifest"])
	if e != 0 {
		return e
	}
	if m.Store != b.c.Store || m.Version != b.version || m.Node != b.node || len(m.Files) != len(b.files)-1 {
		return api.ErrOther
	}
	damage := false
	for _, row := range m.Files {
		data, ok := b.files[row.Name]
		if !ok || row.Name == "manifest" {
			return api.ErrOther
		}
		damage = damage || row != rowOf(row.Name, data)
	}
	if damage {
		return api.ErrDamage
	}
	meta, e := paper.ParseMeta(b.files["meta"])
	if e != 0 {
		return e
	}
	if own := (api.Meta{Store: b.c.Store, Version: b.version, Node: b.node, Parts: plainParts(b.c), Replicas: b.c.Replicas, Width: b.c.Width, Chunks: b.c.Chunks, Rows: meta.Rows}); meta != own {
		return api.ErrOther
	}
	return plainContent(b, meta.Rows)
}

// plainContent asks of each chunk whether it is what the pairs in it would be made into, of those pairs that belong there.
func plainContent(b box, rows int) api.Errno {
	sum := 0
	for _, x := range plainSlots(b.c, b.node) {
		chunk := api.Chunk{Index: b.files[x.name+".index"], Data: b.files[x.name+".data"]}
		groups, e := record.Decode(b.c.Width, chunk)
		if e != 0 {
			return api.ErrContent
		}
		var list []api.Pair
		for _, g := range groups {
			list = append(list, g.Pairs...)
		}
		if plainChunk(plainIn(b.c, list, x.part, x.chunk), hashIn(b.c)) != chunk {
			return api.ErrContent
		}
		sum += len(list)
	}
	if sum != rows {
		return api.ErrContent
	}
	return 0
}
