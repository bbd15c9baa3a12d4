package builder

import (
	"cmp"
	"crypto/md5"
	"encoding/binary"
	"fmt"
	"hash/crc32"
	"maps"
	"regexp"
	"slices"
	"strconv"
	"strings"
	"testing"

	"granary/api"
	"granary/disk"
	"granary/ring"
	"granary/sorter"
)

// A plain reading of the chapter: a version's files are made in memory, of all kept pairs at once, and the acts are a list. The program is held against it.

func plainParts(c api.Cluster) int {
	n := 0
	for _, node := range c.Nodes {
		n += len(node.Parts)
	}
	return n
}

// plainOwners walks round the ring.
func plainOwners(c api.Cluster, part int) []int {
	at := map[int]int{}
	for n, node := range c.Nodes {
		for _, p := range node.Parts {
			at[p] = n
		}
	}
	var owners []int
	for i := 0; len(owners) < c.Replicas; i++ {
		if n := at[(part+i)%len(at)]; !slices.Contains(owners, n) {
			owners = append(owners, n)
		}
	}
	return owners
}

type plainPlace struct {
	part, chunk int
	hash        string
}

func plainLocate(c api.Cluster, key string) plainPlace {
	sum := md5.Sum([]byte(key))
	part := binary.BigEndian.Uint32(sum[:4]) % uint32(plainParts(c))
	chunk := binary.BigEndian.Uint32(sum[4:8]) % uint32(c.Chunks)
	return plainPlace{int(part), int(chunk), string(sum[16-c.Width:])}
}

// plainKept is the kept pairs by rising keys.
func plainKept(j api.Job, list []api.Pair) []api.Pair {
	m := map[string]string{}
	for _, p := range list {
		if _, ok := m[p.Key]; !ok || j.Policy == 0 {
			m[p.Key] = p.Value
		}
	}
	var kept []api.Pair
	for _, key := range slices.Sorted(maps.Keys(m)) {
		kept = append(kept, api.Pair{Key: key, Value: m[key]})
	}
	return kept
}

// plainChunk is the bytes of an index and its data, of pairs by rising keys that all lie in one chunk.
func plainChunk(c api.Cluster, kept []api.Pair) (index, data string) {
	groups := map[string][]api.Pair{}
	for _, p := range kept {
		hash := plainLocate(c, p.Key).hash
		groups[hash] = append(groups[hash], p)
	}
	for _, hash := range slices.Sorted(maps.Keys(groups)) {
		index += hash + string(binary.BigEndian.AppendUint32(nil, uint32(len(data))))
		data += string(binary.BigEndian.AppendUint16(nil, uint16(len(groups[hash]))))
		for _, p := range groups[hash] {
			data += string(binary.BigEndian.AppendUint16(nil, uint16(len(p.Key))))
			data += string(binary.BigEndian.AppendUint32(nil, uint32(len(p.Value))))
			data += p.Key + p.Value
		}
	}
	return index, data
}

// plainFile is a file of a version.
type plainFile struct {
	node       int
	name, data string
}

// plainChunks is all chunk files, in the order in which they are made, and by node how many pairs they hold.
func plainChunks(c api.Cluster, kept []api.Pair) ([]plainFile, []int) {
	in := map[[2]int][]api.Pair{}
	for _, p := range kept {
		at := plainLocate(c, p.Key)
		in[[2]int{at.part, at.chunk}] = append(in[[2]int{at.part, at.chunk}], p)
	}
	var files []plainFile
	rows := make([]int, len(c.Nodes))
	for part := range plainParts(c) {
		for chunk := range c.Chunks {
			index, data := plainChunk(c, in[[2]int{part, chunk}])
			for replica, node := range plainOwners(c, part) {
				name := fmt.Sprintf("%d_%d_%d", part, replica, chunk)
				files = append(files, plainFile{node, name + ".index", index}, plainFile{node, name + ".data", data})
				rows[node] += len(in[[2]int{part, chunk}])
			}
		}
	}
	return files, rows
}

func sealed(text string) string {
	return text + fmt.Sprintf("sum %08x\n", crc32.ChecksumIEEE([]byte(text)))
}

func plainMeta(c api.Cluster, version, node, rows int) string {
	return sealed(fmt.Sprintf("granary meta 1\nstore %s\nversion %d\nnode %d\nparts %d\nreplicas %d\nwidth %d\nchunks %d\nrows %d\n",
		c.Store, version, node, plainParts(c), c.Replicas, c.Width, c.Chunks, rows))
}

// plainManifest tells of the files of one node.
func plainManifest(c api.Cluster, version, node int, all []plainFile) string {
	var own []plainFile
	for _, f := range all {
		if f.node == node {
			own = append(own, f)
		}
	}
	slices.SortFunc(own, func(a, b plainFile) int { return cmp.Compare(a.name, b.name) })
	text, whole := fmt.Sprintf("granary manifest 1\nstore %s\nversion %d\nnode %d\nfiles %d\n", c.Store, version, node, len(own)), ""
	for _, f := range own {
		text += fmt.Sprintf("file %s %d %08x %x\n", f.name, len(f.data), crc32.ChecksumIEEE([]byte(f.data)), md5.Sum([]byte(f.data)))
		whole += f.data
	}
	return sealed(text + fmt.Sprintf("total %d\nwhole %08x\n", len(whole), crc32.ChecksumIEEE([]byte(whole))))
}

// plainVersion is the chunk files of a version, and its papers: by node, the meta file and the manifest.
func plainVersion(c api.Cluster, j api.Job, list []api.Pair) (chunks, papers []plainFile) {
	chunks, rows := plainChunks(c, plainKept(j, list))
	for node := range c.Nodes {
		meta := plainFile{node, "meta", plainMeta(c, j.Version, node, rows[node])}
		papers = append(papers, meta, plainFile{node, "manifest", plainManifest(c, j.Version, node, append(chunks[:len(chunks):len(chunks)], meta))})
	}
	return chunks, papers
}

// acts is a list of calls, of which the first that is refused ends all.
type acts []func() api.Errno

func (a acts) do() api.Errno {
	for _, f := range a {
		if e := f(); e != 0 {
			return e
		}
	}
	return 0
}

func fileActs(d *disk.Disk, path, data string) acts {
	list := acts{func() api.Errno { return d.Create(path) }}
	if data != "" {
		list = append(list, func() api.Errno { return d.Append(path, data) })
	}
	return append(list, func() api.Errno { return d.Sync(path) })
}

func plainDir(version, node int) string { return fmt.Sprintf("part-%d/node-%d", version, node) }

// sortActs is what the sorter does up to the end of Finish; its Close comes later.
func sortActs(d *disk.Disk, c api.Cluster, j api.Job, list []api.Pair, s **sorter.Sorter) acts {
	all := acts{func() (e api.Errno) {
		*s, e = sorter.New(d, fmt.Sprintf("part-%d/sort", j.Version), j.Memory, j.FanIn)
		return e
	}}
	for _, p := range list {
		at := plainLocate(c, p.Key)
		hash := string([]byte{byte(at.part), byte(at.chunk)}) + at.hash
		all = append(all, func() api.Errno { return (*s).Add(hash, p.Key, p.Value) })
	}
	return append(all, func() api.Errno { return (*s).Finish() })
}

// buildActs is P8.5.
func buildActs(d *disk.Disk, c api.Cluster, j api.Job, list []api.Pair) acts {
	var s *sorter.Sorter
	part, built := fmt.Sprintf("part-%d", j.Version), fmt.Sprintf("build-%d", j.Version)
	chunks, papers := plainVersion(c, j, list)
	all := acts{func() api.Errno { return d.Mkdir(part) }}
	all = append(all, sortActs(d, c, j, list, &s)...)
	for node := range c.Nodes {
		all = append(all, func() api.Errno { return d.Mkdir(plainDir(j.Version, node)) })
	}
	for _, f := range chunks {
		all = append(all, fileActs(d, plainDir(j.Version, f.node)+"/"+f.name, f.data)...)
	}
	all = append(all, func() api.Errno { return s.Close() })
	for _, f := range papers {
		all = append(all, fileActs(d, plainDir(j.Version, f.node)+"/"+f.name, f.data)...)
		if f.name == "manifest" {
			all = append(all, func() api.Errno { return d.SyncDir(plainDir(j.Version, f.node)) })
		}
	}
	return append(all,
		func() api.Errno { return d.SyncDir(part) },
		func() api.Errno { return d.Rename(part, built) },
		func() api.Errno { return d.SyncDir("") })
}

func plainCheck(j api.Job, list []api.Pair) api.Errno {
	switch {
	case j.Version < 1 || j.Version > 999999:
		return api.ErrVersion
	case j.Policy < 0 || j.Policy > 2:
		return api.ErrPolicy
	case j.Memory < 1 || j.Memory > 1<<30 || j.FanIn < 2 || j.FanIn > 16:
		return api.ErrArg
	case len(list) > 512:
		return api.ErrCount
	}
	sum := 0
	for _, p := range list {
		if len(p.Key) < 1 || len(p.Key) > 255 {
			return api.ErrKey
		}
		if len(p.Value) > 4096 {
			return api.ErrValue
		}
		sum += len(p.Key) + len(p.Value)
	}
	if sum > 32768 {
		return api.ErrBig
	}
	for i, p := range list {
		for _, q := range list[:i] {
			if j.Policy == 2 && p.Key == q.Key {
				return api.ErrRepeat
			}
		}
	}
	return 0
}

// plainNeed is the formula of P8.3.
func plainNeed(c api.Cluster, list []api.Pair) int {
	s := 0
	for _, p := range list {
		s += c.Width + len(p.Key) + len(p.Value)
	}
	n := len(list)
	return c.Replicas*(s+12*n) + 160*plainParts(c)*c.Replicas*c.Chunks + 512*len(c.Nodes) + 2*(s+18*n)
}

func hasName(d *disk.Disk, name string) bool {
	_, e := d.Kind(name)
	return e == 0
}

func plainBuild(d *disk.Disk, c api.Cluster, j api.Job, list []api.Pair) (api.Built, api.Errno) {
	if e := ring.Check(c); e != 0 {
		return api.Built{}, e
	}
	if e := plainCheck(j, list); e != 0 {
		return api.Built{}, e
	}
	if d.Down() {
		return api.Built{}, api.ErrDown
	}
	if hasName(d, fmt.Sprint("build-", j.Version)) || hasName(d, fmt.Sprint("gone-", j.Version)) {
		return api.Built{}, api.ErrBuilt
	}
	if e := plainClean(d); e != 0 {
		return api.Built{}, e
	}
	if d.Capacity()-d.Used() < plainNeed(c, list) {
		return api.Built{}, api.ErrRoom
	}
	if e := buildActs(d, c, j, list).do(); e != 0 {
		plainClean(d)
		return api.Built{}, e
	}
	chunks, papers := plainVersion(c, j, list)
	b := api.Built{Pairs: len(list), Kept: len(plainKept(j, list)), Files: len(chunks) + len(papers)}
	for _, f := range append(chunks, papers...) {
		b.Bytes += len(f.data)
	}
	return b, 0
}

var (
	plainPart  = regexp.MustCompile(`^part-[1-9][0-9]{0,5}$`)
	plainWhole = regexp.MustCompile(`^build-[1-9][0-9]{0,5}$`)
)

// plainClean is P8.11.
func plainClean(d *disk.Disk) api.Errno {
	if d.Down() {
		return api.ErrDown
	}
	var all acts
	for _, x := range d.Dump() {
		if plainPart.MatchString(x.Path) {
			all = append(all, awayActs(d, x.Path, x.Kind)...)
		}
	}
	if len(all) > 0 {
		all = append(all, func() api.Errno { return d.SyncDir("") })
	}
	return all.do()
}

func awayActs(d *disk.Disk, path string, kind int) acts {
	var all acts
	if kind == api.IsDir {
		list, _ := d.List(path)
		for _, x := range list {
			all = append(all, awayActs(d, path+"/"+x.Name, x.Kind)...)
		}
	}
	return append(all, func() api.Errno { return d.Remove(path) })
}

func plainStands(d *disk.Disk, version int) api.Errno {
	switch kind, _ := d.Kind(fmt.Sprint("build-", version)); {
	case version < 1 || version > 999999:
		return api.ErrVersion
	case d.Down():
		return api.ErrDown
	case kind != api.IsDir:
		return api.ErrUnbuilt
	}
	return 0
}

// plainDrop is P8.12.
func plainDrop(d *disk.Disk, version int) api.Errno {
	if e := plainStands(d, version); e != 0 {
		return e
	}
	gone := fmt.Sprint("gone-", version)
	all := acts{func() api.Errno { return plainClean(d) }}
	if !hasName(d, gone) {
		all = append(all, func() api.Errno { return d.Mkdir(gone) })
	}
	return append(all,
		func() api.Errno { return d.Rename(fmt.Sprint("build-", version), fmt.Sprint("part-", version)) },
		func() api.Errno { return d.SyncDir("") },
		func() api.Errno { return plainClean(d) }).do()
}

// plainVersions is P8.8.
func plainVersions(d *disk.Disk) ([]int, api.Errno) {
	if d.Down() {
		return nil, api.ErrDown
	}
	var all []int
	for _, x := range d.Dump() {
		if plainWhole.MatchString(x.Path) && x.Kind == api.IsDir {
			n, _ := strconv.Atoi(strings.TrimPrefix(x.Path, "build-"))
			all = append(all, n)
		}
	}
	slices.Sort(all)
	return all, 0
}

// plainBlock is P8.10; the file's name is one that may be.
func plainBlock(d *disk.Disk, version, node int, file string, at, n int) (string, api.Errno) {
	e := plainStands(d, version)
	switch {
	case e == api.ErrVersion:
		return "", e
	case node < 0 || node > 15:
		return "", api.ErrFile
	case at < 0 || n < 0:
		return "", api.ErrArg
	case e != 0:
		return "", e
	}
	path := fmt.Sprintf("build-%d/node-%d/%s", version, node, file)
	for _, x := range d.Dump() {
		if x.Path != path || x.Kind != api.IsFile {
			continue
		}
		if at > len(x.Data) {
			return "", api.ErrEnd
		}
		return x.Data[at:min(len(x.Data), at+min(n, len(x.Data)))], 0
	}
	return "", api.ErrFile
}

// depotCalls are this layer's calls as the program or the plain reading has them.
type depotCalls struct {
	build    func(*disk.Disk, api.Cluster, api.Job, []api.Pair) (api.Built, api.Errno)
	versions func(*disk.Disk) ([]int, api.Errno)
	block    func(*disk.Disk, int, int, string, int, int) (string, api.Errno)
	drop     func(*disk.Disk, int) api.Errno
	clean    func(*disk.Disk) api.Errno
}

func program() depotCalls { return depotCalls{Build, Versions, Block, Drop, Clean} }
func reading() depotCalls {
	return depotCalls{plainBuild, plainVersions, plainBlock, plainDrop, plainClean}
}

// drawCluster draws a valid one, most often small.
func drawCluster(lot *dice) api.Cluster {
	for {
		nodes, parts := 1+lot.roll(4), 1+lot.roll(6)
		c := settings("draw-"+strconv.Itoa(lot.roll(50)), 1+lot.roll(3), 1+lot.roll(3), 1+lot.roll(3), make([]api.NodeDef, nodes)...)
		for p := range parts {
			n := lot.roll(nodes)
			c.Nodes[n].Parts = append(c.Nodes[n].Parts, p)
		}
		if ring.Check(c) == 0 {
			return c
		}
	}
}

func drawPairs(lot *dice) []api.Pair {
	var list []api.Pair
	keys := 1 + lot.roll(40)
	for range lot.roll(30) {
		list = append(list, api.Pair{Key: fmt.Sprint("key", lot.roll(keys)), Value: text(lot.roll(20))})
	}
	return list
}

func drawJob(lot *dice) api.Job {
	fan := 2 + lot.roll(4)
	j := job(1+lot.roll(12), lot.roll(2), fan*(45+lot.roll(60)), fan)
	if lot.roll(12) == 0 {
		j.Policy = 2
	}
	if lot.roll(12) == 0 {
		j.Memory = fan * 30
	}
	return j
}

// litter is what others may have left in a depot, under names of this layer and nearly so.
func litter(d *disk.Disk, lot *dice) string {
	name := []string{"part-", "build-", "gone-", "part-0", "build-x"}[lot.roll(5)] + []string{"", "3", "10", "03", "1.", "1000000"}[lot.roll(6)]
	path := []string{name, name + "/a", name + "/node-0", name + "/node-0/meta", name + "/a-b", name + "/a/c"}[lot.roll(6)]
	if lot.roll(2) == 0 {
		return fmt.Sprint("Mkdir ", path, d.Mkdir(path))
	}
	return fmt.Sprint("Create ", path, d.Create(path), d.Append(path, "0123456789"))
}

// step does one call on a depot, and tells what came of it.
func step(x depotCalls, d *disk.Disk, clusters []api.Cluster, lot dice) string {
	version := 1 + lot.roll(12)
	switch n := lot.roll(100); {
	case n < 35:
		b, e := x.build(d, clusters[lot.roll(len(clusters))], drawJob(&lot), drawPairs(&lot))
		return fmt.Sprint("Build ", b, e)
	case n < 50:
		return fmt.Sprint("Drop ", version, x.drop(d, version))
	case n < 57:
		return fmt.Sprint("Clean ", x.clean(d))
	case n < 62:
		list, e := x.versions(d)
		return fmt.Sprint("Versions ", list, e)
	case n < 72:
		file := []string{"meta", "manifest", "0_0_0.index", "1_1_0.data", "2_0_1.data"}[lot.roll(5)]
		s, e := x.block(d, version, lot.roll(6)-1, file, lot.roll(30)-2, lot.roll(200)-3)
		return fmt.Sprintf("Block %q %d", s, e)
	case n < 78:
		return litter(d, &lot)
	case n < 92:
		return fmt.Sprint("Arm ", d.Arm(lot.roll(180)))
	}
	return fmt.Sprint("Crash ", d.Crash(lot.roll(80), lot.roll(10)))
}

func show(d *disk.Disk) string {
	return fmt.Sprint(d.Acts(), d.Used(), d.Down(), d.Pending())
}

// leavesTheSame holds that a call of the program and of the plain reading answer the same, and leave the same disks, ahead of a crash and behind it.
func leavesTheSame(t *testing.T, what string, ready func() *disk.Disk, call func(depotCalls, *disk.Disk) string) {
	t.Helper()
	got, want := ready(), ready()
	is(t, what, call(program(), got)+show(got), call(reading(), want)+show(want))
	same(t, what, got.Dump(), want.Dump())
	is(t, what+": the crash", got.Crash(got.Pending()/2, 1), want.Crash(want.Pending()/2, 1))
	same(t, what+", behind the crash", got.Dump(), want.Dump())
}

func TestAgainstAPlainReading(t *testing.T) {
	lot := dice(8)
	for life := range 150 {
		clusters := []api.Cluster{drawCluster(&lot), drawCluster(&lot)}
		capacity := 100000
		if lot.roll(3) == 0 {
			capacity = 3000 + lot.roll(20000)
		}
		d, plainD := fresh(t, capacity), fresh(t, capacity)
		for i := range 40 {
			seed := dice(lot.roll(1 << 30))
			got, want := step(program(), d, clusters, seed), step(reading(), plainD, clusters, seed)
			got, want = got+" "+show(d), want+" "+show(plainD)
			if got != want {
				t.Fatalf("life %d, step %d: %s, want %s", life, i, got, want)
			}
			if g, w := d.Dump(), plainD.Dump(); !slices.Equal(g, w) {
				t.Fatalf("life %d, step %d (%s): %v, want %v", life, i, got, g, w)
			}
		}
	}
}
