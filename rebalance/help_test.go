package rebalance

import (
	"fmt"
	"reflect"
	"slices"
	"strings"
	"testing"

	"granary/api"
	"granary/builder"
	"granary/disk"
)

const (
	mostInt  = int(^uint(0) >> 1)
	leastInt = -mostInt - 1
	last     = 999999 // MaxVersion

	home = "store/version-1" // where a version lies on the nodes of was
	goal = "store/fetch-1"   // where it is carried to
)

func is[T comparable](t *testing.T, what string, got, want T) {
	t.Helper()
	if got != want {
		t.Errorf("%s: %v, want %v", what, got, want)
	}
}

func same(t *testing.T, what string, got, want any) {
	t.Helper()
	if !reflect.DeepEqual(got, want) {
		t.Errorf("%s: %+v, want %+v", what, got, want)
	}
}

func done(t *testing.T, all ...api.Errno) {
	t.Helper()
	for i, e := range all {
		if e != api.OK {
			t.Fatalf("call %d: %d", i, e)
		}
	}
}

// Disks.

func fresh(t *testing.T) *disk.Disk {
	t.Helper()
	return roomed(t, api.MaxDisk)
}

// roomed is a new disk with so much room.
func roomed(t *testing.T, room int) *disk.Disk {
	t.Helper()
	d, e := disk.New(room)
	done(t, e)
	return d
}

// put makes a file, with all directories on its way, or a directory if its path ends with '/'.
func put(t *testing.T, d *disk.Disk, path, data string) {
	t.Helper()
	names := strings.Split(path, "/")
	for i := 1; i < len(names); i++ {
		if dir := disk.Path(names[:i]...); !has(d, dir) {
			done(t, d.Mkdir(dir))
		}
	}
	if names[len(names)-1] != "" {
		done(t, d.Create(path), d.Append(path, data))
	}
}

// laid is a new disk with these things, each a path, or a path, "=" and a file's bytes. All of it is safe.
func laid(t *testing.T, things ...string) *disk.Disk {
	t.Helper()
	d := fresh(t)
	for _, x := range things {
		path, data, _ := strings.Cut(x, "=")
		put(t, d, path, data)
	}
	safe(t, d)
	return d
}

func has(d *disk.Disk, path string) bool {
	_, e := d.Kind(path)
	return e == api.OK
}

// bytesOf is a file's bytes.
func bytesOf(t *testing.T, d *disk.Disk, path string) string {
	t.Helper()
	text, e := d.Read(path, 0, mostInt)
	done(t, e)
	return text
}

// rewrite gives a file other bytes.
func rewrite(t *testing.T, d *disk.Disk, path, data string) {
	t.Helper()
	done(t, d.Truncate(path, 0), d.Append(path, data))
}

// away takes away what is at a path.
func away(t *testing.T, d *disk.Disk, path string) {
	t.Helper()
	if list, e := d.List(path); e == api.OK {
		for _, x := range list {
			away(t, d, path+"/"+x.Name)
		}
	}
	done(t, d.Remove(path))
}

// safe makes all that is on a disk safe.
func safe(t *testing.T, d *disk.Disk) {
	t.Helper()
	for _, x := range d.Dump() {
		if x.Kind == api.IsFile {
			done(t, d.Sync(x.Path))
		} else {
			done(t, d.SyncDir(x.Path))
		}
	}
	done(t, d.SyncDir(""))
}

// copied is another disk with the same things on it, all of them safe, with room, neither down nor armed.
func copied(t *testing.T, d *disk.Disk) *disk.Disk {
	t.Helper()
	other := fresh(t)
	for _, x := range d.Dump() {
		if x.Kind == api.IsDir {
			done(t, other.Mkdir(x.Path))
		} else {
			done(t, other.Create(x.Path), other.Append(x.Path, x.Data))
		}
	}
	safe(t, other)
	return other
}

// down takes a disk down.
func down(t *testing.T, d *disk.Disk) {
	t.Helper()
	done(t, d.Arm(0))
	is(t, "the last act", d.SyncDir(""), api.ErrDown)
}

// under is what a disk has in a directory: the names and the bytes.
func under(d *disk.Disk, dir string) []api.Pair {
	var list []api.Pair
	for _, x := range d.Dump() {
		if name, ok := strings.CutPrefix(x.Path, dir+"/"); ok {
			list = append(list, api.Pair{Key: name, Value: x.Data})
		}
	}
	return list
}

// beside is what a disk has but for a directory and all that lies there.
func beside(d *disk.Disk, dir string) []api.Stored {
	return slices.DeleteFunc(d.Dump(), func(x api.Stored) bool { return x.Path == dir || strings.HasPrefix(x.Path, dir+"/") })
}

// state is all that can be seen of a disk but the count of Reads.
func state(d *disk.Disk) string {
	return fmt.Sprint(d.Acts(), d.Pending(), d.Used(), d.Capacity(), d.Down(), d.Dump())
}

// Definitions.

func settings(replicas, width, chunks int, nodes ...[]int) api.Cluster {
	c := api.Cluster{
		Store: "east", Replicas: replicas, Width: width, Chunks: chunks, Retain: 2,
		Block: 64, Rate: 64, Per: 1, Burst: 64, Tries: 3, Base: 1, Most: 8, Quota: 100000,
		Room: 100000, Depot: 100000, Resend: 2, Limit: 3, Patience: 50, GetWait: 2, Strikes: 2, Ban: 10,
	}
	for _, parts := range nodes {
		c.Nodes = append(c.Nodes, api.NodeDef{Parts: parts})
	}
	return c
}

// east is the cluster E of chapter 6, west the chapter's cluster F.
func east() api.Cluster {
	c := settings(2, 1, 2, []int{0, 2}, []int{1}, []int{3})
	c.Nodes[2].Zone = 1
	return c
}

func west() api.Cluster {
	c := settings(2, 1, 2, []int{0}, []int{1}, []int{3}, []int{2})
	c.Nodes[2].Zone = 1
	return c
}

// with is a definition with a change.
func with(c api.Cluster, change func(c *api.Cluster)) api.Cluster {
	c = roomy(c)
	change(&c)
	return c
}

// many is as many partitions as that, all of one node.
func many(count int) []int {
	var parts []int
	for p := range count {
		parts = append(parts, p)
	}
	return parts
}

// roomy is a definition with lists of its own, each with spare room and something in it.
func roomy(c api.Cluster) api.Cluster {
	nodes := append(make([]api.NodeDef, 0, len(c.Nodes)+2), c.Nodes...)
	for i := range nodes {
		nodes[i].Parts = append(make([]int, 0, len(nodes[i].Parts)+2), nodes[i].Parts...)
		scribble(nodes[i].Parts[len(nodes[i].Parts):], -99)
	}
	scribble(nodes[len(nodes):], api.NodeDef{Zone: -99})
	c.Nodes = nodes
	return c
}

// memory is all that lies in a definition's lists, behind their ends too.
func memory(c api.Cluster) string {
	var text strings.Builder
	fmt.Fprint(&text, c.Nodes[:cap(c.Nodes)])
	for _, node := range c.Nodes {
		fmt.Fprint(&text, node.Parts[:cap(node.Parts)])
	}
	return text.String()
}

// spoil writes over a definition's lists.
func spoil(c api.Cluster) {
	for _, node := range c.Nodes {
		scribble(node.Parts, -98)
	}
	scribble(c.Nodes, api.NodeDef{Zone: -98})
}

// scribble writes over a list, and behind its end as far as its memory goes.
func scribble[T any](list []T, with T) {
	all := list[:cap(list)]
	for i := range all {
		all[i] = with
	}
	_ = append(list, with)
}

// wrongs are definitions that are not valid, by what ring.Check answers.
func wrongs() map[api.Errno]api.Cluster {
	return map[api.Errno]api.Cluster{
		api.ErrName:    with(east(), func(c *api.Cluster) { c.Store = "East"; c.Width = 0 }),
		api.ErrSetting: with(east(), func(c *api.Cluster) { c.Width = 17; c.Nodes = nil }),
		api.ErrNodes:   with(east(), func(c *api.Cluster) { c.Nodes = nil }),
		api.ErrParts:   with(east(), func(c *api.Cluster) { c.Nodes[0].Parts = []int{0, 4}; c.Replicas = 4 }),
		api.ErrCopies:  with(east(), func(c *api.Cluster) { c.Replicas = 4 }),
		api.ErrBig:     with(east(), func(c *api.Cluster) { c.Chunks = 16; c.Nodes[2].Parts = append([]int{3}, many(17)[4:]...) }),
	}
}

// Versions.

// data is a dataset of so many pairs; the tag stands in its values.
func data(count int, tag string) []api.Pair {
	var list []api.Pair
	for i := range count {
		list = append(list, api.Pair{Key: fmt.Sprint("key", i), Value: strings.Repeat("v", i%7) + tag})
	}
	return list
}

// chaff is the examples' dataset.
func chaff() []api.Pair { return []api.Pair{{Key: "abc", Value: "chaff"}} }

// made is what was built already: by the cluster, the version and the pairs what lies in the depot.
var made = map[string][]api.Stored{}

// filesOf are the files of a node in a version, by rising names.
func filesOf(t *testing.T, c api.Cluster, node, version int, pairs []api.Pair) []api.Pair {
	t.Helper()
	name := fmt.Sprintf("%+v %d %q", c, version, pairs)
	if _, ok := made[name]; !ok {
		d := fresh(t)
		_, e := builder.Build(d, c, api.Job{Version: version, Memory: 65536, FanIn: 2}, pairs)
		done(t, e)
		made[name] = d.Dump()
	}
	var files []api.Pair
	for _, x := range made[name] {
		if own, ok := strings.CutPrefix(x.Path, fmt.Sprintf("build-%d/node-%d/", version, node)); ok {
			files = append(files, api.Pair{Key: own, Value: x.Data})
		}
	}
	return files
}

// lay puts files into a new directory, and makes all safe.
func lay(t *testing.T, d *disk.Disk, dir string, files []api.Pair) {
	t.Helper()
	head := ""
	if dir != "" {
		put(t, d, dir+"/", "")
		head = dir + "/"
	}
	for _, f := range files {
		put(t, d, head+f.Key, f.Value)
	}
	safe(t, d)
}

// fleet is a disk for each node of a cluster, each with the version that was built for it in a directory.
func fleet(t *testing.T, c api.Cluster, version int, pairs []api.Pair, dir string) []*disk.Disk {
	t.Helper()
	var all []*disk.Disk
	for node := range c.Nodes {
		d := fresh(t)
		lay(t, d, dir, filesOf(t, c, node, version, pairs))
		all = append(all, d)
	}
	return all
}

// Calls.

// plans is Plan; it holds what holds of every call of it: that what is handed in stays as it was, and is not kept, and that the answer is new.
func plans(t *testing.T, was, next api.Cluster) ([]api.Move, api.Errno) {
	t.Helper()
	return twice(t, "Plan", was, next, api.Move{Part: -7, From: -7, FromReplica: -7, To: -7, Replica: -7}, Plan)
}

// leaves is Leaves, likewise.
func leaves(t *testing.T, was, next api.Cluster, node int) ([]api.Slot, api.Errno) {
	t.Helper()
	return twice(t, "Leaves", was, next, api.Slot{Part: -7, Replica: -7}, func(was, next api.Cluster) ([]api.Slot, api.Errno) { return Leaves(was, next, node) })
}

func twice[T comparable](t *testing.T, what string, was, next api.Cluster, junk T, call func(was, next api.Cluster) ([]T, api.Errno)) ([]T, api.Errno) {
	t.Helper()
	a, b := roomy(was), roomy(next)
	before := memory(a) + memory(b)
	first, e := call(a, b)
	if e != api.OK && len(first) > 0 {
		t.Errorf("%s: %v beside the error %d", what, first, e)
	}
	want := slices.Clone(first)
	second, e2 := call(a, b)
	is(t, what+": what was handed in", memory(a)+memory(b), before)
	spoil(a)
	spoil(b)
	if e2 != e || !slices.Equal(first, want) || !slices.Equal(second, want) {
		t.Errorf("%s: %v, %d, then %v, %d, then %v", what, want, e, second, e2, first)
	}
	scribble(first, junk)
	third, _ := call(roomy(was), roomy(next))
	if !slices.Equal(second, want) || !slices.Equal(third, want) {
		t.Errorf("%s, behind writing into an answer: %v, want %v", what, third, want)
	}
	return want, e
}

// trip is a call of Carry.
type trip struct {
	was, next     api.Cluster
	version, node int
	from          []*disk.Disk
	dir           string
	to            *disk.Disk
	toDir         string
}

// trek is a trip from home to a disk that has room, of version 1.
func trek(t *testing.T, was, next api.Cluster, node int, from []*disk.Disk) trip {
	t.Helper()
	return trip{was, next, 1, node, from, home, laid(t, "store/", "other/file=x"), goal}
}

// carry is Carry; it holds what holds of every call of it: that nothing but toDir is touched, that nothing stands beside an error, and that without the call's OK toDir is as it was. What was handed in is written over then: nothing of it may be kept.
func (x trip) carry(t *testing.T, what string) (api.Carried, api.Errno) {
	t.Helper()
	was, next := roomy(x.was), roomy(x.next)
	from := append(make([]*disk.Disk, 0, len(x.from)+1), x.from...)
	before := memory(was) + memory(next)
	var states []string
	for _, d := range x.from {
		states = append(states, state(d))
	}
	stood, others := has(x.to, x.toDir), beside(x.to, x.toDir)
	told, e := Carry(was, next, x.version, x.node, from, x.dir, x.to, x.toDir)
	is(t, what+": what was handed in", memory(was)+memory(next), before)
	if !slices.Equal(from[:cap(from)], append(slices.Clone(x.from), nil)) {
		t.Errorf("%s: the list of disks was changed", what)
	}
	spoil(was)
	spoil(next)
	clear(from)
	for i, d := range x.from {
		if d != x.to && state(d) != states[i] {
			t.Errorf("%s: the disk %d was changed", what, i)
		}
	}
	if !slices.Equal(beside(x.to, x.toDir), others) {
		t.Errorf("%s: something else on the disk was changed", what)
	}
	if e != api.OK && (told != api.Carried{} || has(x.to, x.toDir) != stood) {
		t.Errorf("%s: %+v beside the error %d; toDir is there: %v", what, told, e, has(x.to, x.toDir))
	}
	return told, e
}

// carries is a call that is to be done; it holds the files that it writes.
func (x trip) carries(t *testing.T, what string, want []api.Pair) api.Carried {
	t.Helper()
	told, e := x.carry(t, what)
	is(t, what, e, api.OK)
	filesAre(t, what, x.to, x.toDir, want)
	is(t, what+": Files", told.Files, len(want))
	is(t, what+": Bytes", told.Bytes, sizeOf(want))
	return told
}

func filesAre(t *testing.T, what string, d *disk.Disk, dir string, want []api.Pair) {
	t.Helper()
	if got := under(d, dir); !slices.Equal(got, want) {
		t.Errorf("%s:\n     %q, want\n     %q", what, got, want)
	}
}

// sizeOf is how many bytes files have.
func sizeOf(files []api.Pair) int {
	sum := 0
	for _, f := range files {
		sum += len(f.Value)
	}
	return sum
}

// refuses is a call that is to be refused; it holds that nothing is touched.
func (x trip) refuses(t *testing.T, what string, want api.Errno) {
	t.Helper()
	before := state(x.to)
	_, e := x.carry(t, what)
	is(t, what, e, want)
	is(t, what+": the disk", state(x.to), before)
}

// Lots.

// dice are numbers that are the same in every run.
type dice uint64

func (d *dice) roll(n int) int {
	*d = *d*6364136223846793005 + 1442695040888963407
	return int(uint64(*d)>>33) % n
}

// oneOf draws one of these.
func oneOf[T any](lot *dice, these ...T) T { return these[lot.roll(len(these))] }

// drawn is a definition with so many partitions; it fits all others with the same width and chunks.
func drawn(lot *dice, parts, width, chunks int) api.Cluster {
	nodes := make([][]int, 1+lot.roll(oneOf(lot, 4, 8, 16)))
	for p := range parts {
		n := lot.roll(len(nodes))
		nodes[n] = append(nodes[n], p)
	}
	c := settings(1, width, chunks, nodes...)
	keeping := 0
	for i := range c.Nodes {
		c.Nodes[i].Zone = lot.roll(8)
		if len(nodes[i]) > 0 {
			keeping++
		}
	}
	c.Replicas = 1 + lot.roll(min(keeping, api.MaxFiles/parts/chunks))
	c.Retain, c.Block, c.Quota, c.Home = 1+lot.roll(8), 1+lot.roll(64), 1+lot.roll(9), lot.roll(8)
	return c
}
