package steward

import (
	"fmt"
	"hash/crc32"
	"reflect"
	"slices"
	"testing"

	"granary/api"
	"granary/disk"
)

const (
	mostInt  = int(^uint(0) >> 1)
	leastInt = -mostInt - 1
	most     = 9007199254740992 // MaxNumber
	last     = 999999           // MaxVersion
	roomy    = 4096             // bytes of a disk that has room for everything
)

func is[T comparable](t *testing.T, what string, got, want T) {
	t.Helper()
	if got != want {
		t.Errorf("%s: %v, want %v", what, got, want)
	}
}

func same(t *testing.T, what string, got, want any) {
	t.Helper()
	if !reflect.DeepEqual(got, want) {
		t.Errorf("%s: %+v, want %+v", what, got, want)
	}
}

func done(t *testing.T, all ...api.Errno) {
	t.Helper()
	for i, e := range all {
		if e != api.OK {
			t.Fatalf("call %d: %d", i, e)
		}
	}
}

// Clusters.

func settings(resend, limit, patience int, nodes ...api.NodeDef) api.Cluster {
	return api.Cluster{
		Store: "east", Replicas: 1, Width: 1, Chunks: 2, Retain: 2,
		Block: 64, Rate: 64, Per: 1, Burst: 64, Tries: 3, Base: 1, Most: 8, Quota: 100000,
		Room: 100000, Depot: 100000, Resend: resend, Limit: limit, Patience: patience, GetWait: 2, Strikes: 2, Ban: 10, Home: 0,
		Nodes: nodes,
	}
}

// east is the cluster E of chapter 6.
func east() api.Cluster {
	c := settings(2, 3, 50, api.NodeDef{Parts: []int{0, 2}}, api.NodeDef{Parts: []int{1}}, api.NodeDef{Zone: 1, Parts: []int{3}})
	c.Replicas = 2
	return c
}

// many is a cluster of n nodes.
func many(n, resend, limit, patience int) api.Cluster {
	var nodes []api.NodeDef
	for i := range n {
		nodes = append(nodes, api.NodeDef{Zone: i % 8, Parts: []int{i}})
	}
	return settings(resend, limit, patience, nodes...)
}

// Messages.

const (
	fetch = "fetch"
	swap  = "swap"
	back  = "back"
	look  = "look"
)

// messages are what a phase sends to the nodes 0 to n - 1.
func messages(phase string, n, job, version int) []api.Msg {
	var list []api.Msg
	for node := range n {
		list = append(list, map[string]api.Msg{
			fetch: {Kind: 3, From: 64, To: node, Id: job, Epoch: job, Version: version},
			swap:  {Kind: 5, From: 64, To: node, Id: job, Epoch: job, Seq: 1, Version: version},
			back:  {Kind: 7, From: 64, To: node, Id: job, Epoch: job, Seq: 2},
			look:  {Kind: 9, From: 64, To: node, Id: job},
		}[phase])
	}
	return list
}

// firstPhase is the one that a job of a kind begins with.
func firstPhase(kind int) string { return []string{1: fetch, 2: swap, 3: look}[kind] }

// reply is a node's in a phase.
func reply(phase string, node, job, version int, code api.Errno) api.Msg {
	return map[string]api.Msg{
		fetch: {Kind: 4, From: node, To: 64, Id: job, Epoch: job, Version: version, Code: code},
		swap:  {Kind: 6, From: node, To: 64, Id: job, Epoch: job, Seq: 1, Version: version, Prev: 3, Code: code},
		back:  {Kind: 8, From: node, To: 64, Id: job, Epoch: job, Seq: 2, Version: version, Prev: version, Code: code},
		look:  {Kind: 10, From: node, To: 64, Id: job, Epoch: 77, Seq: 2, Version: version, Prev: 3, Code: code},
	}[phase]
}

// Disks.

func fresh(t *testing.T, capacity int) *disk.Disk {
	t.Helper()
	d, e := disk.New(capacity)
	done(t, e)
	return d
}

func there(d *disk.Disk, path string) bool {
	_, e := d.Kind(path)
	return e == api.OK
}

// put makes a file.
func put(t *testing.T, d *disk.Disk, path, data string) {
	t.Helper()
	done(t, d.Create(path), d.Append(path, data))
}

// replaced makes a file in the place of the one that may be there.
func replaced(t *testing.T, d *disk.Disk, path, data string) {
	t.Helper()
	if there(d, path) {
		done(t, d.Remove(path))
	}
	put(t, d, path, data)
}

// safe makes all that is on a disk safe.
func safe(t *testing.T, d *disk.Disk) {
	t.Helper()
	for _, x := range d.Dump() {
		if x.Kind == api.IsFile {
			done(t, d.Sync(x.Path))
		} else {
			done(t, d.SyncDir(x.Path))
		}
	}
	done(t, d.SyncDir(""))
}

// down takes a disk down.
func down(t *testing.T, d *disk.Disk) {
	t.Helper()
	done(t, d.Arm(0))
	is(t, "an act on a disk that is armed with 0", d.SyncDir(""), api.ErrDown)
}

// copied is another disk with what is seen of one.
func copied(t *testing.T, d *disk.Disk) *disk.Disk {
	t.Helper()
	c := fresh(t, max(d.Capacity(), d.Used()))
	for _, x := range d.Dump() {
		if x.Kind == api.IsDir {
			done(t, c.Mkdir(x.Path))
		} else {
			put(t, c, x.Path, x.Data)
		}
	}
	safe(t, c)
	return c
}

// costs holds how many acts a deed does.
func costs(t *testing.T, what string, d *disk.Disk, want int, do func()) {
	t.Helper()
	before := d.Acts()
	do()
	is(t, what+": acts", d.Acts()-before, want)
}

// still holds that a deed leaves a disk as it was.
func still(t *testing.T, what string, d *disk.Disk, do func()) {
	t.Helper()
	acts, pending, dump, isDown := d.Acts(), d.Pending(), d.Dump(), d.Down()
	do()
	if d.Acts() != acts || d.Pending() != pending || d.Down() != isDown || !slices.Equal(d.Dump(), dump) {
		t.Errorf("%s: the disk was changed: %v, %v", what, dump, d.Dump())
	}
}

// Logs.

// sealed is a log's first five lines with their sum behind them.
func sealed(body string) string {
	return body + fmt.Sprintf("sum %08x\n", crc32.ChecksumIEEE([]byte(body)))
}

// logText is a log, written by the chapter's words.
func logText(number, kind, version, outcome int) string {
	return sealed(fmt.Sprintf("granary job 1\nnumber %d\nkind %d\nversion %d\noutcome %d\n", number, kind, version, outcome))
}

// logIs holds what the log says, and that nothing else of the steward's is there.
func logIs(t *testing.T, d *disk.Disk, number, kind, version, outcome int) {
	t.Helper()
	text, e := d.Read("job", 0, mostInt)
	is(t, "the log", e, api.OK)
	is(t, "the log", text, logText(number, kind, version, outcome))
	is(t, "job.new", there(d, "job.new"), false)
}

// safeLogIs holds that the log stays so whatever crashes.
func safeLogIs(t *testing.T, d *disk.Disk, number, kind, version, outcome int) {
	t.Helper()
	logIs(t, d, number, kind, version, outcome)
	is(t, "pending", d.Pending(), 0)
}

// Stewards with their disks.

type bench struct {
	*Steward
	c api.Cluster
	d *disk.Disk
	n int // nodes
}

// over is a new steward over a disk, not up.
func over(t *testing.T, c api.Cluster, d *disk.Disk) *bench {
	t.Helper()
	s, e := New(c, d)
	if s == nil || e != api.OK {
		t.Fatalf("New = %v, %d", s != nil, e)
	}
	return &bench{s, c, d, len(c.Nodes)}
}

// booted is a steward that is up, over a disk with a log, or with none where that is "".
func booted(t *testing.T, c api.Cluster, log string) *bench {
	t.Helper()
	d := fresh(t, roomy)
	if log != "" {
		put(t, d, "job", log)
		safe(t, d)
	}
	b := over(t, c, d)
	_, e := b.Boot()
	done(t, e)
	return b
}

// Calls, each with what it must answer.

func sent(t *testing.T, what string, list []api.Msg, e api.Errno, want []api.Msg) {
	t.Helper()
	if !slices.Equal(list, want) || e != api.OK {
		t.Errorf("%s: %+v, %d, want %+v", what, list, e, want)
	}
}

func notSent(t *testing.T, what string, list []api.Msg, e, want api.Errno) {
	t.Helper()
	if len(list) != 0 || e != want {
		t.Errorf("%s: %+v, %d, want the error %d", what, list, e, want)
	}
}

func (b *bench) bootIs(t *testing.T, want []api.Msg) {
	t.Helper()
	list, e := b.Boot()
	sent(t, "Boot", list, e, want)
	is(t, "Up behind Boot", b.Up(), true)
	is(t, "Busy behind Boot", b.Busy(), len(want) > 0)
	b.noReport(t, api.ErrIdle)
}

func (b *bench) bootFails(t *testing.T, want api.Errno) {
	t.Helper()
	list, e := b.Boot()
	notSent(t, "Boot", list, e, want)
	b.isOff(t)
}

func (b *bench) beginIs(t *testing.T, kind, version, job int) {
	t.Helper()
	list, e := b.Begin(kind, version)
	sent(t, fmt.Sprintf("Begin(%d, %d)", kind, version), list, e, messages(firstPhase(kind), b.n, job, version))
	is(t, "Busy behind Begin", b.Busy(), true)
}

func (b *bench) beginFails(t *testing.T, kind, version int, want api.Errno) {
	t.Helper()
	list, e := b.Begin(kind, version)
	notSent(t, fmt.Sprintf("Begin(%d, %d)", kind, version), list, e, want)
}

func (b *bench) takeIs(t *testing.T, m api.Msg, want []api.Msg) {
	t.Helper()
	list, e := b.Take(m)
	sent(t, fmt.Sprintf("Take(%+v)", m), list, e, want)
}

func (b *bench) tickIs(t *testing.T, want []api.Msg) {
	t.Helper()
	list, e := b.Tick()
	sent(t, "Tick", list, e, want)
}

func (b *bench) stopIs(t *testing.T, want []api.Msg) {
	t.Helper()
	list, e := b.Stop()
	sent(t, "Stop", list, e, want)
}

// reportIs holds that the job has ended so.
func (b *bench) reportIs(t *testing.T, job, kind, version, outcome int, holds []int, missing ...int) {
	t.Helper()
	is(t, "Busy", b.Busy(), false)
	b.toldIs(t, job, kind, version, outcome, holds, missing...)
}

// toldIs holds what the report says, whether another job is going on or not.
func (b *bench) toldIs(t *testing.T, job, kind, version, outcome int, holds []int, missing ...int) {
	t.Helper()
	r, e := b.Report()
	is(t, "Report", e, api.OK)
	want := api.Report{Job: job, Kind: kind, Version: version, Outcome: outcome, Holds: holds, Missing: missing}
	is(t, "Report", fmt.Sprint(r), fmt.Sprint(want))
}

func (b *bench) noReport(t *testing.T, want api.Errno) {
	t.Helper()
	r, e := b.Report()
	is(t, "Report", e, want)
	same(t, "Report", r, api.Report{})
}

// refuses holds that each call that a steward must be up for, or be one for, is refused so, and nothing is done.
func (b *bench) refuses(t *testing.T, want api.Errno) {
	t.Helper()
	still(t, "refused", b.d, func() {
		is(t, "Up", b.Up(), false)
		is(t, "Busy", b.Busy(), false)
		is(t, "Halt", b.Halt(), want)
		b.noReport(t, want)
		for _, kind := range []int{leastInt, 0, 1, 2, 3, 4, mostInt} {
			b.beginFails(t, kind, 0, want)
			b.beginFails(t, kind, 7, want)
		}
		for _, phase := range []string{fetch, swap, back, look} {
			for _, job := range []int{0, 1, 2} {
				list, e := b.Take(reply(phase, 0, job, 7, api.OK))
				notSent(t, "Take", list, e, want)
			}
		}
		list, e := b.Take(api.Msg{})
		notSent(t, "Take", list, e, want)
		list, e = b.Tick()
		notSent(t, "Tick", list, e, want)
		list, e = b.Stop()
		notSent(t, "Stop", list, e, want)
	})
}

// isOff holds that it is not up.
func (b *bench) isOff(t *testing.T) {
	t.Helper()
	b.refuses(t, api.ErrOff)
}

// answered lets all nodes answer in a phase, and tells what comes of the last one.
func (b *bench) answered(t *testing.T, phase string, job, version int) ([]api.Msg, api.Errno) {
	t.Helper()
	for node := range b.n - 1 {
		b.takeIs(t, reply(phase, node, job, version, api.OK), nil)
	}
	return b.Take(reply(phase, b.n-1, job, version, api.OK))
}

// ends lets all nodes answer in a phase, by which the job ends.
func (b *bench) ends(t *testing.T, phase string, job, version int) {
	t.Helper()
	list, e := b.answered(t, phase, job, version)
	sent(t, "the last answer", list, e, nil)
	is(t, "Busy behind the last answer", b.Busy(), false)
}

// again takes it down and up: what it sends then.
func (b *bench) again(t *testing.T, want []api.Msg) {
	t.Helper()
	done(t, b.Halt())
	b.bootIs(t, want)
}

// each is a list of n times the same.
func each(n, x int) []int { return slices.Repeat([]int{x}, n) }

// upto are the nodes 0 to n - 1.
func upto(n int) []int {
	var list []int
	for i := range n {
		list = append(list, i)
	}
	return list
}

// dice are numbers that are the same in every run.
type dice uint64

func (d *dice) roll(n int) int {
	*d = *d*6364136223846793005 + 1442695040888963407
	return int(uint64(*d)>>33) % n
}

// oneOf draws one of these.
func oneOf[T any](lot *dice, these ...T) T { return these[lot.roll(len(these))] }

// scribble writes over a list, and behind its end as far as its memory goes.
func scribble[T any](list []T, with T) {
	all := list[:cap(list)]
	for i := range all {
		all[i] = with
	}
	_ = append(list, with)
}
