package node

import (
	"fmt"
	"maps"
	"reflect"
	"slices"
	"strings"
	"sync"
	"testing"

	"granary/api"
	"granary/builder"
	"granary/digest"
	"granary/disk"
	"granary/engine"
	"granary/frame"
	"granary/paper"
	"granary/ring"
)

const (
	mostInt  = int(^uint(0) >> 1)
	leastInt = -mostInt - 1
	most     = 9007199254740992 // MaxNumber
	last     = 999999           // MaxVersion
)

func is[T comparable](t *testing.T, what string, got, want T) {
	t.Helper()
	if got != want {
		t.Errorf("%s: %v, want %v", what, got, want)
	}
}

func same(t *testing.T, what string, got, want any) {
	t.Helper()
	if !reflect.DeepEqual(got, want) {
		t.Errorf("%s: %+v, want %+v", what, got, want)
	}
}

func done(t *testing.T, all ...api.Errno) {
	t.Helper()
	for i, e := range all {
		if e != api.OK {
			t.Fatalf("call %d: %d", i, e)
		}
	}
}

// The disk.

func fresh(t *testing.T, capacity int) *disk.Disk {
	t.Helper()
	d, e := disk.New(capacity)
	done(t, e)
	return d
}

func there(d *disk.Disk, path string) bool {
	_, e := d.Kind(path)
	return e == api.OK
}

// put makes a file, with all directories on its way, or a directory if its path ends with '/'.
func put(t *testing.T, d *disk.Disk, path, data string) {
	t.Helper()
	names := strings.Split(path, "/")
	for i := 1; i < len(names); i++ {
		if dir := disk.Path(names[:i]...); !there(d, dir) {
			done(t, d.Mkdir(dir))
		}
	}
	if names[len(names)-1] != "" {
		done(t, d.Create(path), d.Append(path, data))
	}
}

// lay puts files into a new directory, and makes nothing safe.
func lay(t *testing.T, d *disk.Disk, dir string, files map[string]string) {
	t.Helper()
	put(t, d, dir+"/", "")
	for _, name := range slices.Sorted(maps.Keys(files)) {
		put(t, d, dir+"/"+name, files[name])
	}
}

// away takes away what is at a path.
func away(t *testing.T, d *disk.Disk, path string) {
	t.Helper()
	if list, e := d.List(path); e == api.OK {
		for _, x := range list {
			away(t, d, path+"/"+x.Name)
		}
	}
	done(t, d.Remove(path))
}

// safe makes all that is on a disk safe.
func safe(t *testing.T, d *disk.Disk) {
	t.Helper()
	for _, x := range d.Dump() {
		if x.Kind == api.IsFile {
			done(t, d.Sync(x.Path))
		} else {
			done(t, d.SyncDir(x.Path))
		}
	}
	done(t, d.SyncDir(""))
}

// names are those of the store's entries.
func names(t *testing.T, d *disk.Disk) string {
	t.Helper()
	list, e := d.List("store")
	done(t, e)
	var all []string
	for _, x := range list {
		all = append(all, x.Name)
	}
	return strings.Join(all, " ")
}

// calm holds that what is done leaves a disk as it was.
func calm(t *testing.T, what string, d *disk.Disk, do func()) {
	t.Helper()
	acts, pending, dump, isDown := d.Acts(), d.Pending(), d.Dump(), d.Down()
	do()
	if d.Acts() != acts || d.Pending() != pending || d.Down() != isDown || !slices.Equal(d.Dump(), dump) {
		t.Errorf("%s: the disk was changed", what)
	}
}

// down takes a disk down.
func down(t *testing.T, d *disk.Disk) {
	t.Helper()
	done(t, d.Arm(0))
	is(t, "the last act", d.SyncDir(""), api.ErrDown)
}

// fill leaves so much room on a disk.
func fill(t *testing.T, d *disk.Disk, room int) {
	t.Helper()
	put(t, d, "fill", strings.Repeat("x", d.Capacity()-d.Used()-room))
}

// Clusters and datasets.

func settings(store string, replicas, chunks, retain int, nodes ...api.NodeDef) api.Cluster {
	return api.Cluster{
		Store: store, Replicas: replicas, Width: 1, Chunks: chunks, Retain: retain,
		Block: 64, Rate: 64, Per: 1, Burst: 64, Tries: 3, Base: 1, Most: 8, Quota: 100000,
		Room: 100000, Depot: 100000, Resend: 2, Limit: 3, Patience: 50, GetWait: 2, Strikes: 2, Ban: 10, Home: 0,
		Nodes: nodes,
	}
}

// east is the cluster E of chapter 6.
func east() api.Cluster {
	return settings("east", 2, 2, 2, api.NodeDef{Parts: []int{0, 2}}, api.NodeDef{Parts: []int{1}}, api.NodeDef{Zone: 1, Parts: []int{3}})
}

// small is one node with one partition and one chunk: three files and the manifest a version. Blocks come as fast as one likes.
func small(retain int) api.Cluster {
	c := settings("small", 1, 1, retain, api.NodeDef{Parts: []int{0}})
	c.Rate, c.Burst = 65536, 65536
	return c
}

// keys are in all datasets: of E's partitions 0 and 1, which are node 1's, and of others.
func keys() []string {
	return []string{"abc", "leek", "pea", "corn", "date", "mint", "oat", "rye", "fig"}
}

// data is a version's dataset: each value tells the version, and one key is in no other version.
func data(version int) []api.Pair {
	var list []api.Pair
	for _, key := range append(keys(), fmt.Sprint("only-", version)) {
		list = append(list, api.Pair{Key: key, Value: fmt.Sprintf("%s of %d", key, version)})
	}
	return list
}

// valueOf is what a version's dataset gives a key.
func valueOf(version int, key string) (string, bool) {
	i := slices.IndexFunc(data(version), func(p api.Pair) bool { return p.Key == key })
	if i < 0 {
		return "", false
	}
	return data(version)[i].Value, true
}

// holds tells whether a node is an owner of a key.
func holds(t *testing.T, c api.Cluster, id int, key string) bool {
	t.Helper()
	p, e := ring.Locate(c, key)
	done(t, e)
	owners, e := ring.Owners(c, p.Part)
	done(t, e)
	return slices.Contains(owners, id)
}

// keyOf is a key that a node is an owner of, or not, and that no dataset has.
func keyOf(t *testing.T, c api.Cluster, id int, mine bool) string {
	t.Helper()
	for i := range 1000 {
		if key := fmt.Sprint("none-", i); holds(t, c, id, key) == mine {
			return key
		}
	}
	t.Fatal("no such key")
	return ""
}

// kept is what was built already.
var kept = struct {
	sync.Mutex
	files map[string]map[string]string
}{files: map[string]map[string]string{}}

// stocked is what a repository has for a node: the texts of a version's files, the manifest among them.
func stocked(t *testing.T, c api.Cluster, id, version int, pairs []api.Pair) map[string]string {
	t.Helper()
	name := fmt.Sprintf("%+v %d %d %q", c, id, version, pairs)
	kept.Lock()
	defer kept.Unlock()
	if files, ok := kept.files[name]; ok {
		return maps.Clone(files)
	}
	depot := fresh(t, 1<<20)
	_, e := builder.Build(depot, c, api.Job{Version: version, Policy: api.KeepLast, Memory: 65536, FanIn: 2}, pairs)
	done(t, e)
	dir := fmt.Sprintf("build-%d/node-%d", version, id)
	list, e := depot.List(dir)
	done(t, e)
	files := map[string]string{}
	for _, x := range list {
		text, e := depot.Read(disk.Path(dir, x.Name), 0, mostInt)
		done(t, e)
		files[x.Name] = text
	}
	kept.files[name] = files
	return maps.Clone(files)
}

// stock is that of the datasets of these tests.
func stock(t *testing.T, c api.Cluster, id, version int) map[string]string {
	t.Helper()
	return stocked(t, c, id, version, data(version))
}

// rows are the names of files but the manifest, rising.
func rows(files map[string]string) []string {
	list := slices.Sorted(maps.Keys(files))
	return slices.DeleteFunc(list, func(name string) bool { return name == "manifest" })
}

// manifest is the text of one with these files (by rising names), whatever they are.
func manifest(t *testing.T, store string, version, id int, files map[string]string) string {
	t.Helper()
	m := api.Manifest{Store: store, Version: version, Node: id}
	whole := ""
	for _, name := range slices.Sorted(maps.Keys(files)) {
		text := files[name]
		m.Files = append(m.Files, api.FileRow{Name: name, Size: len(text), Crc: digest.CRC(text), Md5: digest.MD5(text)})
		whole += text
	}
	m.Total, m.Whole = len(whole), digest.CRC(whole)
	text, e := paper.PrintManifest(m)
	done(t, e)
	return text
}

// withManifest is files with the manifest that they have.
func withManifest(t *testing.T, c api.Cluster, version, id int, files map[string]string) map[string]string {
	t.Helper()
	all := maps.Clone(files)
	delete(all, "manifest")
	all["manifest"] = manifest(t, c.Store, version, id, all)
	return all
}

// Messages.

func framed(t *testing.T, m api.Msg) string {
	t.Helper()
	text, e := frame.Encode(m)
	done(t, e)
	return text
}

// order is a MsgFetch of the controller.
func order(epoch, version int) api.Msg {
	return api.Msg{Kind: api.MsgFetch, From: api.AddrControl, Id: 5, Epoch: epoch, Version: version}
}

// swap is a MsgSwap of the controller, back a MsgBack.
func swap(version, epoch, seq int) api.Msg {
	return api.Msg{Kind: api.MsgSwap, From: api.AddrControl, Id: 6, Epoch: epoch, Seq: seq, Version: version}
}

func back(epoch, seq int) api.Msg {
	return api.Msg{Kind: api.MsgBack, From: api.AddrControl, Id: 7, Epoch: epoch, Seq: seq}
}

func get(key string) api.Msg {
	return api.Msg{Kind: api.MsgGet, From: api.AddrClient, Id: 8, Key: key}
}

func ask() api.Msg { return api.Msg{Kind: api.MsgAsk, From: api.AddrControl, Id: 9} }

// ended is what a fetch says when it ends.
func ended(epoch, version int, code api.Errno) api.Msg {
	return api.Msg{Kind: api.MsgFetched, Epoch: epoch, Version: version, Code: code}
}

// told is what a MsgAsk is answered with.
func told(cur, prev, epoch, seq int) api.Msg {
	return api.Msg{Kind: api.MsgTold, Epoch: epoch, Seq: seq, Version: cur, Prev: prev}
}

// The node.

type bench struct {
	*Node
	d  *disk.Disk
	c  api.Cluster
	id int
}

// made is a node that is not up, on a disk.
func made(t *testing.T, c api.Cluster, id int, d *disk.Disk) *bench {
	t.Helper()
	n, e := New(c, id, d)
	if n == nil || e != api.OK {
		t.Fatalf("New = %v, %d", n != nil, e)
	}
	return &bench{n, d, c, id}
}

// at is a node on a new disk, that is up.
func at(t *testing.T, c api.Cluster, id int) *bench {
	t.Helper()
	b := made(t, c, id, fresh(t, 100000))
	done(t, b.Boot())
	return b
}

// second is node 1 of E.
func second(t *testing.T) *bench { t.Helper(); return at(t, east(), 1) }

// alone is the one node of small.
func alone(t *testing.T) *bench { t.Helper(); return at(t, small(2), 0) }

// pointer is the text of one.
func pointer(t *testing.T, cur, prev, epoch, seq int) string {
	t.Helper()
	text, e := paper.PrintPointer(api.Pointer{Cur: cur, Prev: prev, Epoch: epoch, Seq: seq})
	done(t, e)
	return text
}

// with is a node that has versions, and a pointer, if its epoch is not 0; all is safe.
func with(t *testing.T, c api.Cluster, id int, p api.Pointer, versions ...int) *bench {
	t.Helper()
	d := fresh(t, 100000)
	for _, v := range versions {
		lay(t, d, engine.Dir(v), stock(t, c, id, v))
	}
	if p.Epoch != 0 {
		put(t, d, "store/latest", pointer(t, p.Cur, p.Prev, p.Epoch, p.Seq))
	}
	safe(t, d)
	b := made(t, c, id, d)
	done(t, b.Boot())
	return b
}

// ones is the pointer {cur, prev, 1, 1}.
func ones(cur, prev int) api.Pointer { return api.Pointer{Cur: cur, Prev: prev, Epoch: 1, Seq: 1} }

// again halts it, if it is up, and boots it.
func (b *bench) again(t *testing.T) {
	t.Helper()
	b.Halt()
	done(t, b.Boot())
}

// crash is a loss of power, and a boot.
func (b *bench) crash(t *testing.T, keep, torn int) {
	t.Helper()
	b.Halt()
	b.d.Crash(keep, torn)
	done(t, b.Boot())
}

// posts puts a message to it into its inbox.
func (b *bench) posts(t *testing.T, m api.Msg) {
	t.Helper()
	m.To = b.id
	done(t, b.Post(framed(t, m)))
}

// does posts a message and lets it have a turn.
func (b *bench) does(t *testing.T, m api.Msg) []string {
	t.Helper()
	b.posts(t, m)
	return b.Turn()
}

// hears holds that frames say just this, in answer to m.
func (b *bench) hears(t *testing.T, what string, frames []string, m, want api.Msg) {
	t.Helper()
	want.From, want.To, want.Id = b.id, m.From, m.Id
	if len(frames) != 1 {
		t.Fatalf("%s: %d frames go out, want %+v", what, len(frames), want)
	}
	if got, e := frame.Decode(frames[0]); got != want || e != api.OK {
		t.Errorf("%s: %+v, %d, want %+v", what, got, e, want)
	}
}

// answers holds that a message is answered with another.
func (b *bench) answers(t *testing.T, what string, m, want api.Msg) {
	t.Helper()
	b.hears(t, what, b.does(t, m), m, want)
}

// silent holds that nothing goes out.
func silent(t *testing.T, what string, frames []string) {
	t.Helper()
	if len(frames) != 0 {
		m, e := frame.Decode(frames[0])
		t.Fatalf("%s: %d frames go out, the first: %+v, %d", what, len(frames), m, e)
	}
}

// takes holds that a message is answered with nothing.
func (b *bench) takes(t *testing.T, what string, m api.Msg) {
	t.Helper()
	silent(t, what, b.does(t, m))
}

// stateIs holds what it has.
func (b *bench) stateIs(t *testing.T, what string, cur, prev, epoch, seq int, have ...int) {
	t.Helper()
	s := b.Look().Has
	if s.Cur != cur || s.Prev != prev || s.Epoch != epoch || s.Seq != seq || !slices.Equal(s.Have, have) {
		t.Errorf("%s: %+v, want {%d %d %d %d %v}", what, s, cur, prev, epoch, seq, have)
	}
}

// fetchIs holds how far its fetch is.
func (b *bench) fetchIs(t *testing.T, what string, want api.FetchState) {
	t.Helper()
	is(t, what+": Fetch", b.Look().Fetch, want)
}

// after is a fetch of a version that is after the manifest.
func after(version int) api.FetchState {
	return api.FetchState{Version: version, Phase: api.FetchRunning}
}

func (b *bench) partialIs(t *testing.T, what string, want ...int) {
	t.Helper()
	if got := b.Look().Partial; !slices.Equal(got, want) {
		t.Errorf("%s: Partial = %v, want %v", what, got, want)
	}
}

func (b *bench) wantIs(t *testing.T, what string, want api.Want, wrong api.Errno) {
	t.Helper()
	if got, e := b.Want(); got != want || e != wrong {
		t.Errorf("%s: Want = %+v, %d, want %+v, %d", what, got, e, want, wrong)
	}
}

// wantsManifest holds that it asks for a version's manifest.
func (b *bench) wantsManifest(t *testing.T, what string, version int) {
	t.Helper()
	b.wantIs(t, what, api.Want{Version: version, File: "manifest"}, api.OK)
}

// wants lets ticks go by till it asks for something.
func (b *bench) wants(t *testing.T) api.Want {
	t.Helper()
	for range 2000 {
		w, e := b.Want()
		if e == api.OK {
			return w
		}
		is(t, "Want", e, api.ErrWait)
		done(t, b.Tick())
	}
	t.Fatal("it waits for ever")
	return api.Want{}
}

// piece is what a repository has for a want.
func piece(files map[string]string, w api.Want) string {
	text := files[w.File]
	if w.File == "manifest" {
		return text
	}
	return text[w.At:][:w.Size]
}

// feeds hands in a text with its sum.
func (b *bench) feeds(text string) []string { return b.Feed(api.OK, text, digest.CRC(text)) }

// fed lets it have what it asks for, once.
func (b *bench) fed(t *testing.T, files map[string]string) []string {
	t.Helper()
	return b.feeds(piece(files, b.wants(t)))
}

// pulls lets a fetch have all that it asks for, till it says something, and tells what it asked for.
func (b *bench) pulls(t *testing.T, files map[string]string) ([]string, []api.Want) {
	t.Helper()
	var all []api.Want
	for range 2000 {
		w := b.wants(t)
		all = append(all, w)
		if frames := b.feeds(piece(files, w)); len(frames) > 0 || !b.Up() {
			return frames, all
		}
	}
	t.Fatal("it asks for ever")
	return nil, nil
}

// fetches lets a version come.
func (b *bench) fetches(t *testing.T, m api.Msg) {
	t.Helper()
	b.takes(t, "MsgFetch", m)
	frames, _ := b.pulls(t, stock(t, b.c, b.id, m.Version))
	b.hears(t, "MsgFetched", frames, m, ended(m.Epoch, m.Version, api.OK))
}

// begun is a fetch that has a job, of which no byte has come yet.
func (b *bench) begun(t *testing.T, m api.Msg) {
	t.Helper()
	b.takes(t, "MsgFetch", m)
	silent(t, "the manifest", b.fed(t, stock(t, b.c, b.id, m.Version)))
}

// serves holds that it answers gets from a version, and tells its number.
func (b *bench) serves(t *testing.T, what string, version int) {
	t.Helper()
	for _, key := range append(keys(), fmt.Sprint("only-", version), fmt.Sprint("only-", version+1), "nothing") {
		want := api.Msg{Kind: api.MsgGot, Key: key, Version: version, Code: api.ErrNoKey}
		if value, found := valueOf(version, key); found {
			want.Code, want.Value = api.OK, value
		}
		if !holds(t, b.c, b.id, key) {
			want = api.Msg{Kind: api.MsgGot, Key: key, Code: api.ErrForeign}
		}
		b.answers(t, what, get(key), want)
	}
}

// dice are numbers that are the same in every run.
type dice uint64

func (d *dice) roll(n int) int {
	*d = *d*6364136223846793005 + 1442695040888963407
	return int(uint64(*d)>>33) % n
}
