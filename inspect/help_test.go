package inspect

import (
	"crypto/md5"
	"fmt"
	"hash/crc32"
	"reflect"
	"slices"
	"strconv"
	"strings"
	"testing"

	"granary/api"
	"granary/builder"
	"granary/digest"
	"granary/disk"
	"granary/fetch"
	"granary/paper"
	"granary/ring"
)

const (
	mostInt  = int(^uint(0) >> 1)
	leastInt = -mostInt - 1
	last     = 999999           // MaxVersion
	most     = 9007199254740992 // MaxNumber
)

// The kinds, by the chapter's numbers.
const (
	isGood    = 1
	isPartial = 2
	isLeft    = 3
	isGone    = 4
	isForeign = 5
	isBroken  = 6
)

func is[T comparable](t *testing.T, what string, got, want T) {
	t.Helper()
	if got != want {
		t.Errorf("%s: %v, want %v", what, got, want)
	}
}

func same(t *testing.T, what string, got, want any) {
	t.Helper()
	if !reflect.DeepEqual(got, want) {
		t.Errorf("%s: %+v, want %+v", what, got, want)
	}
}

func done(t *testing.T, all ...api.Errno) {
	t.Helper()
	for i, e := range all {
		if e != api.OK {
			t.Fatalf("call %d: %d", i, e)
		}
	}
}

// Disks.

func fresh(t *testing.T) *disk.Disk {
	t.Helper()
	d, e := disk.New(api.MaxDisk)
	done(t, e)
	return d
}

// put makes a file, with all directories on its way, or a directory if its path ends with '/'.
func put(t *testing.T, d *disk.Disk, path, data string) {
	t.Helper()
	names := strings.Split(path, "/")
	for i := 1; i < len(names); i++ {
		if dir := disk.Path(names[:i]...); !has(d, dir) {
			done(t, d.Mkdir(dir))
		}
	}
	if names[len(names)-1] != "" {
		done(t, d.Create(path), d.Append(path, data))
	}
}

// laid is a new disk with these things, each a path, or a path, "=" and a file's bytes.
func laid(t *testing.T, things ...string) *disk.Disk {
	t.Helper()
	d := fresh(t)
	for _, x := range things {
		path, data, _ := strings.Cut(x, "=")
		put(t, d, path, data)
	}
	return d
}

func has(d *disk.Disk, path string) bool {
	_, e := d.Kind(path)
	return e == api.OK
}

// bytesOf is a file's bytes.
func bytesOf(t *testing.T, d *disk.Disk, path string) string {
	t.Helper()
	text, e := d.Read(path, 0, mostInt)
	done(t, e)
	return text
}

// rewrite gives a file other bytes.
func rewrite(t *testing.T, d *disk.Disk, path, data string) {
	t.Helper()
	done(t, d.Truncate(path, 0), d.Append(path, data))
}

// away takes away what is at a path.
func away(t *testing.T, d *disk.Disk, path string) {
	t.Helper()
	if list, e := d.List(path); e == api.OK {
		for _, x := range list {
			away(t, d, path+"/"+x.Name)
		}
	}
	done(t, d.Remove(path))
}

// turned is a text with one bit of the byte at a place turned.
func turned(text string, at int) string {
	b := []byte(text)
	b[at] ^= 1
	return string(b)
}

// turn turns one bit of a file's byte at a place.
func turn(t *testing.T, d *disk.Disk, path string, at int) {
	t.Helper()
	rewrite(t, d, path, turned(bytesOf(t, d, path), at))
}

// copied is another disk with the same files and directories, with room, neither down nor armed.
func copied(t *testing.T, d *disk.Disk) *disk.Disk {
	t.Helper()
	other := fresh(t)
	for _, x := range d.Dump() {
		if x.Kind == api.IsDir {
			done(t, other.Mkdir(x.Path))
		} else {
			done(t, other.Create(x.Path), other.Append(x.Path, x.Data))
		}
	}
	return other
}

// calm holds that what is done leaves a disk as it was.
func calm(t *testing.T, what string, d *disk.Disk, do func()) {
	t.Helper()
	acts, pending, dump, isDown := d.Acts(), d.Pending(), d.Dump(), d.Down()
	do()
	if d.Acts() != acts || d.Pending() != pending || d.Down() != isDown || !slices.Equal(d.Dump(), dump) {
		t.Errorf("%s: the disk was changed", what)
	}
}

// down takes a disk down.
func down(t *testing.T, d *disk.Disk) {
	t.Helper()
	done(t, d.Arm(0))
	is(t, "the last act", d.SyncDir(""), api.ErrDown)
}

// Clusters, versions.

func settings(store string, replicas, chunks, retain int, nodes ...api.NodeDef) api.Cluster {
	return api.Cluster{
		Store: store, Replicas: replicas, Width: 1, Chunks: chunks, Retain: retain,
		Block: 64, Rate: 64, Per: 1, Burst: 64, Tries: 3, Base: 1, Most: 8, Quota: 100000,
		Room: 100000, Depot: 100000, Resend: 2, Limit: 3, Patience: 50, GetWait: 2, Strikes: 2, Ban: 10, Home: 0,
		Nodes: nodes,
	}
}

// east is the cluster E of chapter 6.
func east() api.Cluster {
	return settings("east", 2, 2, 2, api.NodeDef{Parts: []int{0, 2}}, api.NodeDef{Parts: []int{1}}, api.NodeDef{Zone: 1, Parts: []int{3}})
}

// small is one node with one partition and one chunk: four files a version.
func small() api.Cluster { return settings("small", 1, 1, 1, api.NodeDef{Parts: []int{0}}) }

// pair is two nodes that both have all of the one partition.
func pair() api.Cluster {
	return settings("pair", 2, 1, 1, api.NodeDef{Parts: []int{0}}, api.NodeDef{Parts: []int{1}})
}

// single is the examples' dataset.
func single() []api.Pair { return []api.Pair{{Key: "abc", Value: "one"}} }

// data is a version's dataset: it tells the version.
func data(version int) []api.Pair {
	var list []api.Pair
	for i := range 20 {
		list = append(list, api.Pair{Key: "key" + strconv.Itoa(i), Value: strings.Repeat("v", i%7) + strconv.Itoa(version)})
	}
	return list
}

// countOf is how many of these pairs a node has, by where their keys lie.
func countOf(t *testing.T, c api.Cluster, node int, pairs []api.Pair) int {
	t.Helper()
	count := 0
	for _, p := range pairs {
		place, e := ring.Locate(c, p.Key)
		done(t, e)
		owners, e := ring.Owners(c, place.Part)
		done(t, e)
		if slices.Contains(owners, node) {
			count++
		}
	}
	return count
}

// partOf is the partition in which a key lies.
func partOf(t *testing.T, c api.Cluster, key string) int {
	t.Helper()
	place, e := ring.Locate(c, key)
	done(t, e)
	return place.Part
}

// builds builds a version in a depot.
func builds(t *testing.T, d *disk.Disk, c api.Cluster, version int, pairs []api.Pair) {
	t.Helper()
	_, e := builder.Build(d, c, api.Job{Version: version, Memory: 65536, FanIn: 2}, pairs)
	done(t, e)
}

// made is what was built already: a disk's things by the cluster, the version and the pairs.
var made = map[string][]api.Stored{}

// built is all that lies in a depot behind the Build of one version.
func built(t *testing.T, c api.Cluster, version int, pairs []api.Pair) []api.Stored {
	t.Helper()
	name := fmt.Sprintf("%+v %d %q", c, version, pairs)
	if _, ok := made[name]; !ok {
		d := fresh(t)
		builds(t, d, c, version, pairs)
		made[name] = d.Dump()
	}
	return made[name]
}

// filesOf are the files of a node in a version, by rising names.
func filesOf(t *testing.T, c api.Cluster, node, version int, pairs []api.Pair) []api.Pair {
	t.Helper()
	var files []api.Pair
	for _, x := range built(t, c, version, pairs) {
		if name, ok := strings.CutPrefix(x.Path, fmt.Sprintf("build-%d/node-%d/", version, node)); ok {
			files = append(files, api.Pair{Key: name, Value: x.Data})
		}
	}
	return files
}

// lay puts files into a directory.
func lay(t *testing.T, d *disk.Disk, dir string, files []api.Pair) {
	t.Helper()
	put(t, d, dir+"/", "")
	for _, f := range files {
		put(t, d, dir+"/"+f.Key, f.Value)
	}
}

// shelved lays a whole version of E's node 1 there, with the dataset of that version.
func shelved(t *testing.T, d *disk.Disk, dir string, version int) {
	t.Helper()
	lay(t, d, dir, filesOf(t, east(), 1, version, data(version)))
}

// storehouse is a depot of E with version 7, whose one pair is abc, one.
func storehouse(t *testing.T) *disk.Disk {
	t.Helper()
	d := fresh(t)
	builds(t, d, east(), 7, single())
	return d
}

func pointer(t *testing.T, cur, prev, epoch, seq int) string {
	t.Helper()
	text, e := paper.PrintPointer(api.Pointer{Cur: cur, Prev: prev, Epoch: epoch, Seq: seq})
	done(t, e)
	return text
}

func crc(text string) int { return int(crc32.ChecksumIEEE([]byte(text))) }

func md(text string) string {
	sum := md5.Sum([]byte(text))
	return string(sum[:])
}

// limitsOf are those with which a node of the cluster fetches, but for the speed, and the blocks' size.
func limitsOf(c api.Cluster, block int) api.Limits {
	return api.Limits{Block: block, Rate: 65536, Per: 1, Burst: 65536, Tries: c.Tries, Base: c.Base, Most: c.Most, Quota: c.Quota}
}

// feeds gives a fetch so many blocks of a version of the cluster, or all that it asks for. A disk that goes down ends it.
func feeds(t *testing.T, j *fetch.Job, files []api.Pair, blocks int) api.Errno {
	t.Helper()
	for n := 0; n < blocks && j.State().Phase == api.FetchRunning; n++ {
		done(t, j.Tick(1))
		w, e := j.Ask()
		done(t, e)
		at := slices.IndexFunc(files, func(f api.Pair) bool { return f.Key == w.File })
		block := files[at].Value[w.At : w.At+w.Size]
		if e := j.Put(block, crc(block)); e != api.OK {
			return e
		}
	}
	return api.OK
}

// manifestIn is the manifest among a node's files.
func manifestIn(files []api.Pair) string {
	at := slices.IndexFunc(files, func(f api.Pair) bool { return f.Key == "manifest" })
	return files[at].Value
}

// joined is the CRC of files one behind the other, with one more.
func joined(sum int, r api.FileRow) (int, api.Errno) { return digest.CRCJoin(sum, r.Crc, r.Size) }

// Findings.

// f is a finding.
func f(path string, kind int, code api.Errno, version, count int) api.Finding {
	return api.Finding{Path: path, Kind: kind, Code: code, Version: version, Count: count}
}

func isNobodys(path string) api.Finding { return f(path, isForeign, 0, 0, 0) }

// look is a call that looks through a disk.
type look func() ([]api.Finding, api.Errno)

// finds holds what is found, and that the disk is not touched.
func finds(t *testing.T, what string, d *disk.Disk, l look, want ...api.Finding) {
	t.Helper()
	calm(t, what, d, func() {
		t.Helper()
		if list, e := l(); e != api.OK || !slices.Equal(list, want) {
			t.Errorf("%s:\n     %s, %d, want\n     %s", what, lines(list), e, lines(want))
		}
	})
}

func lines(list []api.Finding) string {
	var text []string
	for _, x := range list {
		text = append(text, fmt.Sprintf("%+v", x))
	}
	return strings.Join(text, "\n     ")
}

// refused holds that there is an error and no finding.
func refused(t *testing.T, what string, l look, want api.Errno) {
	t.Helper()
	if list, e := l(); len(list) != 0 || e != want {
		t.Errorf("%s: %v, %d, want the error %d", what, list, e, want)
	}
}

// The three looks. Each of the disks that the tests hold up to them shows, too, what comes of it (P22.7).

func storeIs(t *testing.T, what string, d *disk.Disk, c api.Cluster, node int, want ...api.Finding) {
	t.Helper()
	finds(t, what, d, func() ([]api.Finding, api.Errno) { return Store(d, c, node) }, want...)
	foretellsStore(t, what, d, c, node)
}

// eastIs is storeIs of E's node 1.
func eastIs(t *testing.T, what string, d *disk.Disk, want ...api.Finding) {
	t.Helper()
	storeIs(t, what, d, east(), 1, want...)
}

func depotIs(t *testing.T, what string, d *disk.Disk, c api.Cluster, want ...api.Finding) {
	t.Helper()
	finds(t, what, d, func() ([]api.Finding, api.Errno) { return Depot(d, c) }, want...)
	foretellsDepot(t, what, d, c)
}

func deskIs(t *testing.T, what string, d *disk.Disk, want ...api.Finding) {
	t.Helper()
	finds(t, what, d, func() ([]api.Finding, api.Errno) { return Desk(d) }, want...)
	foretellsDesk(t, what, d)
}

// Lots.

// dice are numbers that are the same in every run.
type dice uint64

func (d *dice) roll(n int) int {
	*d = *d*6364136223846793005 + 1442695040888963407
	return int(uint64(*d)>>33) % n
}

// oneOf draws one of these.
func oneOf[T any](lot *dice, these ...T) T { return these[lot.roll(len(these))] }

// scribble writes over a list, and behind its end as far as its memory goes.
func scribble[T any](list []T, with T) {
	all := list[:cap(list)]
	for i := range all {
		all[i] = with
	}
	_ = append(list, with)
}
