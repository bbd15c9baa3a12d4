package engine

import (
	"fmt"
	"reflect"
	"slices"
	"strings"
	"sync"
	"testing"

	"granary/api"
	"granary/builder"
	"granary/disk"
	"granary/paper"
)

const (
	mostInt  = int(^uint(0) >> 1)
	leastInt = -mostInt - 1
	most     = 9007199254740992 // MaxNumber
)

func is[T comparable](t *testing.T, what string, got, want T) {
	t.Helper()
	if got != want {
		t.Errorf("%s: %v, want %v", what, got, want)
	}
}

func same(t *testing.T, what string, got, want any) {
	t.Helper()
	if !reflect.DeepEqual(got, want) {
		t.Errorf("%s: %+v, want %+v", what, got, want)
	}
}

func done(t *testing.T, all ...api.Errno) {
	t.Helper()
	for i, e := range all {
		if e != api.OK {
			t.Fatalf("call %d: %d", i, e)
		}
	}
}

func fresh(t *testing.T, capacity int) *disk.Disk {
	t.Helper()
	d, e := disk.New(capacity)
	done(t, e)
	return d
}

// put makes a file, with all directories on its way, or a directory if its path ends with '/'.
func put(t *testing.T, d *disk.Disk, path, data string) {
	t.Helper()
	names := strings.Split(path, "/")
	for i := 1; i < len(names); i++ {
		if dir := disk.Path(names[:i]...); !has(d, dir) {
			done(t, d.Mkdir(dir))
		}
	}
	if names[len(names)-1] != "" {
		done(t, d.Create(path), d.Append(path, data))
	}
}

func has(d *disk.Disk, path string) bool {
	_, e := d.Kind(path)
	return e == api.OK
}

// bytesOf is a file's bytes.
func bytesOf(t *testing.T, d *disk.Disk, path string) string {
	t.Helper()
	text, e := d.Read(path, 0, mostInt)
	done(t, e)
	return text
}

// rewrite gives a file other bytes.
func rewrite(t *testing.T, d *disk.Disk, path, data string) {
	t.Helper()
	done(t, d.Truncate(path, 0), d.Append(path, data))
}

// away takes away what is at a path.
func away(t *testing.T, d *disk.Disk, path string) {
	t.Helper()
	if list, e := d.List(path); e == api.OK {
		for _, x := range list {
			away(t, d, path+"/"+x.Name)
		}
	}
	done(t, d.Remove(path))
}

// safe makes all that is on a disk safe.
func safe(t *testing.T, d *disk.Disk) {
	t.Helper()
	for _, x := range d.Dump() {
		if x.Kind == api.IsFile {
			done(t, d.Sync(x.Path))
		} else {
			done(t, d.SyncDir(x.Path))
		}
	}
	done(t, d.SyncDir(""))
}

// names are those of the store's entries.
func names(t *testing.T, d *disk.Disk) string {
	t.Helper()
	list, e := d.List("store")
	done(t, e)
	var all []string
	for _, x := range list {
		all = append(all, x.Name)
	}
	return strings.Join(all, " ")
}

// under is what a disk has in a directory, by the names there.
func under(d *disk.Disk, dir string) []string {
	var list []string
	for _, x := range d.Dump() {
		if rest, ok := strings.CutPrefix(x.Path, dir+"/"); ok {
			list = append(list, rest+"="+x.Data)
		}
	}
	return list
}

// calm holds that what is done leaves a disk as it was.
func calm(t *testing.T, what string, d *disk.Disk, do func()) {
	t.Helper()
	acts, pending, dump, isDown := d.Acts(), d.Pending(), d.Dump(), d.Down()
	do()
	if d.Acts() != acts || d.Pending() != pending || d.Down() != isDown || !slices.Equal(d.Dump(), dump) {
		t.Errorf("%s: the disk was changed", what)
	}
}

// down takes a disk down.
func down(t *testing.T, d *disk.Disk) {
	t.Helper()
	done(t, d.Arm(0))
	is(t, "the last act", d.SyncDir(""), api.ErrDown)
}

// fill leaves so much room on a disk.
func fill(t *testing.T, d *disk.Disk, room int) {
	t.Helper()
	put(t, d, "fill", strings.Repeat("x", d.Capacity()-d.Used()-room))
}

func settings(store string, replicas, width, chunks, retain int, nodes ...api.NodeDef) api.Cluster {
	return api.Cluster{
		Store: store, Replicas: replicas, Width: width, Chunks: chunks, Retain: retain,
		Block: 64, Rate: 64, Per: 1, Burst: 64, Tries: 3, Base: 1, Most: 8, Quota: 100000,
		Room: 100000, Depot: 100000, Resend: 2, Limit: 3, Patience: 50, GetWait: 2, Strikes: 2, Ban: 10, Home: 0,
		Nodes: nodes,
	}
}

// east is the cluster E of chapter 6.
func east() api.Cluster {
	return settings("east", 2, 1, 2, 2, api.NodeDef{Parts: []int{0, 2}}, api.NodeDef{Parts: []int{1}}, api.NodeDef{Zone: 1, Parts: []int{3}})
}

// small is one node with one partition and one chunk: four files a version.
func small(retain int) api.Cluster {
	return settings("small", 1, 1, 1, retain, api.NodeDef{Parts: []int{0}})
}

// data is a version's dataset: it tells the version and how often it was made.
func data(version, round int) []api.Pair {
	var list []api.Pair
	for _, key := range []string{"abc", "oat", "rye", "fig", "plum"} {
		list = append(list, api.Pair{Key: key, Value: fmt.Sprintf("%s-%d-%d", key, version, round)})
	}
	return list
}

// kept is what was built already.
var kept = struct {
	sync.Mutex
	files map[string][]api.Pair
}{files: map[string][]api.Pair{}}

// built is the files of a node in a version, by rising names.
func built(t *testing.T, c api.Cluster, node, version int, pairs []api.Pair) []api.Pair {
	t.Helper()
	name := fmt.Sprintf("%+v %d %d %q", c, node, version, pairs)
	kept.Lock()
	defer kept.Unlock()
	if files, ok := kept.files[name]; ok {
		return files
	}
	depot := fresh(t, 1<<20)
	_, e := builder.Build(depot, c, api.Job{Version: version, Policy: api.KeepLast, Memory: 65536, FanIn: 2}, pairs)
	done(t, e)
	dir := fmt.Sprintf("build-%d/node-%d", version, node)
	list, e := depot.List(dir)
	done(t, e)
	var files []api.Pair
	for _, x := range list {
		files = append(files, api.Pair{Key: x.Name, Value: bytesOf(t, depot, dir+"/"+x.Name)})
	}
	kept.files[name] = files
	return files
}

// lay puts files into a new directory, and makes nothing safe.
func lay(t *testing.T, d *disk.Disk, dir string, files []api.Pair) {
	t.Helper()
	put(t, d, dir+"/", "")
	for _, f := range files {
		put(t, d, dir+"/"+f.Key, f.Value)
	}
}

// bench is a node: its disk, its cluster, its number, its engine.
type bench struct {
	*Engine
	d    *disk.Disk
	c    api.Cluster
	node int
}

// opens opens, and it must be done.
func opens(t *testing.T, d *disk.Disk, c api.Cluster, node int) *Engine {
	t.Helper()
	x, e := Open(d, c, node)
	if x == nil || e != api.OK {
		t.Fatalf("Open = %v, %d", x != nil, e)
	}
	return x
}

// refuses holds that a store is refused, that there is no engine, and that nothing is touched.
func refuses(t *testing.T, what string, d *disk.Disk, c api.Cluster, node int, want api.Errno) {
	t.Helper()
	calm(t, what, d, func() {
		if x, e := Open(d, c, node); x != nil || e != want {
			t.Errorf("%s: Open = %v, %d, want %d", what, x != nil, e, want)
		}
	})
}

// at is a node on a new disk.
func at(t *testing.T, c api.Cluster, node int) *bench {
	t.Helper()
	d := fresh(t, 200000)
	return &bench{opens(t, d, c, node), d, c, node}
}

// second is node 1 of E.
func second(t *testing.T) *bench { t.Helper(); return at(t, east(), 1) }

// alone is the one node of small.
func alone(t *testing.T) *bench { t.Helper(); return at(t, small(2), 0) }

// again opens the store once more.
func (b *bench) again(t *testing.T) { t.Helper(); b.Engine = opens(t, b.d, b.c, b.node) }

// fetched lays whole partial directories, of which nothing is safe.
func (b *bench) fetched(t *testing.T, versions ...int) {
	t.Helper()
	for _, v := range versions {
		lay(t, b.d, fmt.Sprintf("store/fetch-%d", v), built(t, b.c, b.node, v, data(v, 0)))
	}
}

// admitted lets the node have versions.
func (b *bench) admitted(t *testing.T, versions ...int) {
	t.Helper()
	for _, v := range versions {
		b.fetched(t, v)
		done(t, b.Admit(v))
	}
}

// served is a node with the versions, and the pointer {cur, prev, 1, 1}.
func served(t *testing.T, b *bench, cur, prev int, versions ...int) *bench {
	t.Helper()
	b.admitted(t, versions...)
	if prev != 0 {
		done(t, b.Swap(prev, 0, 1))
	}
	done(t, b.Swap(cur, 1, 1))
	stateIs(t, "served", b.Engine, cur, prev, 1, 1, versions...)
	return b
}

func stateIs(t *testing.T, what string, x *Engine, cur, prev, epoch, seq int, have ...int) {
	t.Helper()
	s := x.State()
	if s.Cur != cur || s.Prev != prev || s.Epoch != epoch || s.Seq != seq || !slices.Equal(s.Have, have) {
		t.Errorf("%s: State = %+v, want {%d %d %d %d %v}", what, s, cur, prev, epoch, seq, have)
	}
}

func partialIs(t *testing.T, what string, x *Engine, want ...int) {
	t.Helper()
	if got := x.Partial(); !slices.Equal(got, want) {
		t.Errorf("%s: Partial = %v, want %v", what, got, want)
	}
}

func getIs(t *testing.T, what string, x *Engine, key string, want api.Answer, wrong api.Errno) {
	t.Helper()
	if a, e := x.Get(key); a != want || e != wrong {
		t.Errorf("%s: Get(%.20q) = %+v, %d, want %+v, %d", what, key, a, e, want, wrong)
	}
}

// serves holds that a version is read.
func serves(t *testing.T, what string, x *Engine, version int) {
	t.Helper()
	getIs(t, what, x, "abc", api.Answer{Version: version, Found: true, Value: fmt.Sprintf("abc-%d-0", version)}, api.OK)
}

// isStuck holds that an engine gives no more answers.
func isStuck(t *testing.T, what string, x *Engine) {
	t.Helper()
	saysNo(t, what, x, api.ErrStuck)
}

// saysNo holds that every call answers an error, or nothing.
func saysNo(t *testing.T, what string, x *Engine, want api.Errno) {
	t.Helper()
	same(t, what+": State", x.State(), api.State{})
	is(t, what+": Partial", len(x.Partial()), 0)
	for _, n := range []int{leastInt, -1, 0, 1, 2, api.MaxVersion, api.MaxVersion + 1, mostInt} {
		is(t, what+": Admit", x.Admit(n), want)
		for _, m := range []int{leastInt, -1, 0, 1, 9, most, most + 1, mostInt} {
			is(t, what+": Swap", x.Swap(n, m, 1), want)
			is(t, what+": Swap", x.Swap(n, 9, m), want)
			is(t, what+": Rollback", x.Rollback(m, n), want)
			if s, k, e := x.Sum(n, m); s != "" || k != 0 || e != want {
				t.Errorf("%s: Sum = %x, %d, %d", what, s, k, e)
			}
			if p, e := x.Entry(n, 0, m); p != (api.Pair{}) || e != want {
				t.Errorf("%s: Entry = %v, %d", what, p, e)
			}
		}
	}
	for _, key := range []string{"", "abc", "x", strings.Repeat("k", 256)} {
		getIs(t, what, x, key, api.Answer{}, want)
	}
	if l, e := x.Prune(); len(l) != 0 || e != want {
		t.Errorf("%s: Prune = %v, %d", what, l, e)
	}
}

// pointer is the text of one.
func pointer(t *testing.T, cur, prev, epoch, seq int) string {
	t.Helper()
	text, e := paper.PrintPointer(api.Pointer{Cur: cur, Prev: prev, Epoch: epoch, Seq: seq})
	done(t, e)
	return text
}

// points lays a pointer.
func points(t *testing.T, d *disk.Disk, cur, prev, epoch, seq int) {
	t.Helper()
	if has(d, "store/latest") {
		done(t, d.Remove("store/latest"))
	}
	put(t, d, "store/latest", pointer(t, cur, prev, epoch, seq))
}

// deed is an act, for telling which are done: its word, its path, and another path or bytes.
type deed struct{ do, path, more string }

func (s deed) on(d *disk.Disk) api.Errno {
	switch s.do {
	case "mkdir":
		return d.Mkdir(s.path)
	case "create":
		return d.Create(s.path)
	case "append":
		return d.Append(s.path, s.more)
	case "rename":
		return d.Rename(s.path, s.more)
	case "remove":
		return d.Remove(s.path)
	case "sync":
		return d.Sync(s.path)
	case "syncdir":
		return d.SyncDir(s.path)
	}
	return api.ErrArg
}

// deeds are told one a line: a word and paths.
func deeds(lines string) []deed {
	var all []deed
	for line := range strings.Lines(lines) {
		if w := strings.Fields(line); len(w) == 2 {
			path := w[1]
			if path == "root" {
				path = ""
			}
			all = append(all, deed{w[0], path, ""})
		} else if len(w) == 3 {
			all = append(all, deed{w[0], w[1], w[2]})
		}
	}
	return all
}

// pointing are the acts by which a pointer is written.
func pointing(text string) []deed {
	return []deed{
		{"create", "store/latest.new", ""}, {"append", "store/latest.new", text}, {"sync", "store/latest.new", ""},
		{"rename", "store/latest.new", "store/latest"}, {"syncdir", "store", ""},
	}
}

// each is an act for each of some names in a directory.
func each(do, dir string, files []api.Pair) []deed {
	var all []deed
	for _, f := range files {
		all = append(all, deed{do, dir + "/" + f.Key, ""})
	}
	return all
}

// discarding are the acts by which a version with some files is taken away.
func discarding(version int, files []api.Pair) []deed {
	from, trash := fmt.Sprint("store/version-", version), fmt.Sprint("store/trash-", version)
	return slices.Concat(
		[]deed{{"rename", from, trash}, {"syncdir", "store", ""}},
		each("remove", trash, files),
		[]deed{{"remove", trash, ""}, {"syncdir", "store", ""}})
}

// actsAre holds that a call does just these acts, in this order, with the disk going down at each of them, and any of them surviving; and that the engine is stuck then.
func actsAre(t *testing.T, what string, ready func() (*disk.Disk, *Engine, func() api.Errno), answer api.Errno, want ...[]deed) {
	t.Helper()
	all := slices.Concat(want...)
	for k := range len(all) + 1 {
		for keep := 0; ; keep++ {
			d, x, call := ready()
			before := d.Acts()
			done(t, d.Arm(k))
			e := call()
			if k < len(all) && e != api.ErrDown || k == len(all) && e != answer || d.Acts()-before != k {
				t.Fatalf("%s, armed with %d: %d, behind %d acts, want %d acts", what, k, e, d.Acts()-before, len(all))
			}
			if x != nil && keep == 0 && k < len(all) {
				isStuck(t, fmt.Sprintf("%s, armed with %d", what, k), x)
			}
			twin, _, _ := ready()
			for i, s := range all[:k] {
				if e := s.on(twin); e != api.OK {
					t.Fatalf("%s: the act %d, %v, is refused: %d", what, i, s, e)
				}
			}
			pending := d.Pending()
			if pending != twin.Pending() || !slices.Equal(d.Dump(), twin.Dump()) {
				t.Fatalf("%s, behind %d acts: %d pending, want %d\n%+v, want\n%+v", what, k, pending, twin.Pending(), d.Dump(), twin.Dump())
			}
			d.Crash(keep, 3)
			twin.Crash(keep, 3)
			if !slices.Equal(d.Dump(), twin.Dump()) {
				t.Fatalf("%s, behind %d acts and a crash that %d survive:\n%+v, want\n%+v", what, k, keep, d.Dump(), twin.Dump())
			}
			if keep >= pending {
				break
			}
		}
	}
}

// opening makes Open a call for actsAre, on a disk that is laid anew each time.
func opening(t *testing.T, c api.Cluster, node int, lie func(d *disk.Disk)) func() (*disk.Disk, *Engine, func() api.Errno) {
	t.Helper()
	return func() (*disk.Disk, *Engine, func() api.Errno) {
		d := fresh(t, 200000)
		lie(d)
		return d, nil, func() api.Errno {
			x, e := Open(d, c, node)
			if (x != nil) != (e == api.OK) {
				t.Errorf("Open = %v, %d", x != nil, e)
			}
			return e
		}
	}
}

// calling makes a call of a node one for actsAre.
func calling(ready func() *bench, call func(b *bench) api.Errno) func() (*disk.Disk, *Engine, func() api.Errno) {
	return func() (*disk.Disk, *Engine, func() api.Errno) {
		b := ready()
		return b.d, b.Engine, func() api.Errno { return call(b) }
	}
}

// dice are numbers that are the same in every run.
type dice uint64

func (d *dice) roll(n int) int {
	*d = *d*6364136223846793005 + 1442695040888963407
	return int(uint64(*d)>>33) % n
}
