package granary

import (
	"cmp"
	"fmt"
	"slices"
	"strconv"
	"strings"
	"testing"

	"granary/api"
	"granary/ring"
)

// A witness follows a run and holds it, behind every step, against P24.7, P24.8, P24.9 and P24.13. It knows the steps, what was told of them, and what one sees from outside, nothing else.

// affair is what the witness knows of a job.
type affair struct {
	number, kind, version int
	resumed               bool        // the controller went down while it was going on
	backs                 bool        // a Back of it went out
	closed                bool        // it was reported, or it ended without a report
	reported              bool        // and
	outcome               int         // so
	clean                 bool        // all jobs ahead of it were reported, none as Incomplete
	had                   map[int]int // by node: what was current when the job began, where that is known
	seen                  map[[2]int]bool
	carried               map[int]int // by node that carried out the job's Swap: what was current ahead of it
	backed                map[int]int // by node that acknowledged the compensation: the Version of that
}

// tracked is what the witness knows of a node.
type tracked struct {
	inbox []api.Msg
	ahead api.State    // ahead of the step in which it went down
	next  *api.Pointer // what the order was to write that it was carrying out in that step
	armed bool         // a fuse was set behind the last crash
}

// gotten is an EvSent of a MsgGot.
type gotten struct {
	step, node int
	m          api.Msg
}

type ticket struct {
	key  string
	step int
}

type witness struct {
	t     *testing.T
	text  string
	c     api.Cluster
	x     *pair
	m     *Machine
	steps int
	view  api.View // behind the last step
	ops   []api.Op

	nodes     []tracked
	deskArmed bool
	depotDown bool
	trials    map[int]map[string]string // by version: the dataset of the build that may come to be
	data      map[int]map[string]string // by version: D
	made      map[int]map[string]string // by version: all its files, by their paths below build-V
	gots      []gotten
	tickets   []ticket
	lastId    int          // of the letters that were seen
	held      map[int]bool // the letters, by their Ids, that a run keeps back

	jobs  map[int]*affair
	last  int     // the number of the last one
	open  *affair // the one that is going on
	ghost *affair // the one in whose Begin the controller's disk went down
	fresh int     // the version that was reported as Succeeded last; 0: a later order may have changed it
	since int     // the step of that report
	calm  *affair // the job that was reported as Restored last, if nothing has changed what it restored

	count map[string]int // how often things came about
}

func newWitness(t *testing.T, text string, count map[string]int) *witness {
	t.Helper()
	c := clusterOf(t, text)
	w := &witness{t: t, text: text, c: c, x: newPair(t, text), nodes: make([]tracked, len(c.Nodes)), jobs: map[int]*affair{}, held: map[int]bool{}, count: count}
	w.trials, w.data, w.made = map[int]map[string]string{}, map[int]map[string]string{}, map[int]map[string]string{}
	w.m = w.x.m
	w.view = w.m.Look()
	return w
}

func (w *witness) fail(what string, args ...any) {
	w.t.Helper()
	ops := w.ops[max(0, len(w.ops)-12):]
	w.t.Fatalf("step %d: %s\nthe last steps: %+v\none sees %.1500s\n%s", w.steps, fmt.Sprintf(what, args...), ops, fmt.Sprintf("%+v", w.view), w.text)
}

func (w *witness) saw(what string) { w.count[what]++ }

// do does a step on the machine and on the plain one, and looks at all that came of it.
func (w *witness) do(op api.Op) []api.Event {
	w.t.Helper()
	w.ops = append(w.ops, op)
	w.steps++
	before := w.view
	var head *api.Msg
	if op.Kind == api.OpTurn && op.Node >= 0 && op.Node < len(w.nodes) && len(w.nodes[op.Node].inbox) > 0 {
		head = &w.nodes[op.Node].inbox[0]
	}
	list := w.x.do(op)
	w.view = w.m.Look()
	looksLike(w.t, "one sees", w.view, w.x.p.look())
	w.refusal(before, list)
	w.builds(op, list)
	w.disks(op, list)
	w.jobBegins(op, list)
	for n := range w.nodes {
		w.node(n, op, list, before.Nodes[n], w.view.Nodes[n], head)
	}
	w.inboxes(op, list, before)
	w.tells(op, list, before)
	w.letters()
	for n := range w.nodes {
		w.serves(n)
	}
	w.job()
	return list
}

// refusal: a step that was refused did nothing, but for an OpPurge.
func (w *witness) refusal(before api.View, list []api.Event) {
	w.t.Helper()
	if len(list) != 1 || list[0].Kind != api.EvRefused {
		return
	}
	w.saw("refused " + digits(int(list[0].Code)))
	if list[0].Code == api.OK || w.ops[len(w.ops)-1].Kind == api.OpPurge {
		return
	}
	looksLike(w.t, "one sees behind a refusal", w.view, before)
}

func isRefused(list []api.Event) bool { return len(list) > 0 && list[0].Kind == api.EvRefused }

func hasEvent(list []api.Event, kind, node int) bool {
	return slices.ContainsFunc(list, func(e api.Event) bool { return e.Kind == kind && e.Node == node })
}

// kept is the dataset that the policy makes of pairs.
func kept(op api.Op) map[string]string {
	d := map[string]string{}
	for _, p := range op.Pairs {
		if _, there := d[p.Key]; !there || op.Job.Policy == api.KeepLast {
			d[p.Key] = p.Value
		}
	}
	return d
}

// builds: which versions are built, and of which datasets.
func (w *witness) builds(op api.Op, list []api.Event) {
	w.t.Helper()
	switch {
	case op.Kind == api.OpBuild:
		e := list[0]
		if len(list) != 1 || e.Kind != api.EvBuilt || e.Version != op.Job.Version || e.Code != api.OK && e.Built != (api.Built{}) {
			w.fail("a build tells %+v", list)
		}
		w.saw("built " + digits(int(e.Code)))
		if !w.depotDown && (e.Code == api.OK || e.Code == api.ErrDown) {
			w.trials[op.Job.Version] = kept(op)
		}
		w.depotDown = w.depotDown || e.Code == api.ErrDown
		if e.Code == api.OK && !slices.Contains(w.view.Built, op.Job.Version) {
			w.fail("version %d is not built", op.Job.Version)
		}
	case op.Kind == api.OpPurge && isRefused(list) && list[0].Code == api.ErrDown:
		w.depotDown = true
	case op.Kind == api.OpCrash && op.Node == depotNumber:
		w.depotDown = false
	}
	for _, v := range w.view.Built {
		if w.data[v] != nil {
			continue
		}
		if w.trials[v] == nil {
			w.fail("version %d is built, and nobody built it", v)
		}
		if op.Kind != api.OpBuild {
			w.saw("built behind a crash")
		}
		w.data[v], w.made[v] = w.trials[v], map[string]string{}
		for _, s := range w.m.Files(depotNumber) {
			if rest, ok := strings.CutPrefix(s.Path, "build-"+digits(v)+"/"); ok && s.Kind == api.IsFile {
				w.made[v][rest] = s.Data
			}
		}
	}
}

// disks: which of them may be down.
func (w *witness) disks(op api.Op, list []api.Event) {
	w.t.Helper()
	if isRefused(list) {
		return
	}
	armed := &w.deskArmed
	switch {
	case op.Node >= 0 && op.Node < len(w.nodes):
		armed = &w.nodes[op.Node].armed
	case op.Node != deskNumber:
		armed = new(bool)
	}
	switch op.Kind {
	case api.OpFuse:
		*armed = op.I >= 0
	case api.OpCrash:
		*armed = false
	case api.OpBoot:
		w.boots(list, op.Node, *armed)
		if list[0].Version != w.view.Nodes[op.Node].Has.Cur {
			w.fail("a boot tells %+v", list)
		}
	case api.OpRevive:
		w.boots(list, deskNumber, w.deskArmed)
	}
}

func (w *witness) boots(list []api.Event, number int, armed bool) {
	w.t.Helper()
	e := list[0]
	if len(list) != 1 || e.Kind != api.EvUp || e.Node != number || !armed && e.Code != api.OK {
		w.fail("a boot tells %+v", list)
	}
	if number != deskNumber && w.view.Nodes[number].Up != (e.Code == api.OK) || number == deskNumber && w.view.Ruling != (e.Code == api.OK) {
		w.fail("behind a boot that tells %+v", list)
	}
	w.saw(fmt.Sprint("up ", min(number, 0), " ", e.Code))
}

func pointerOf(s api.State) api.Pointer {
	return api.Pointer{Cur: s.Cur, Prev: s.Prev, Epoch: s.Epoch, Seq: s.Seq}
}

// writes is the pointer that an order is to write; nil: none.
func writes(was api.State, m *api.Msg) *api.Pointer {
	if m == nil || m.Kind != api.MsgSwap && m.Kind != api.MsgBack {
		return nil
	}
	if cmp.Or(cmp.Compare(m.Epoch, was.Epoch), cmp.Compare(m.Seq, was.Seq)) <= 0 {
		return nil
	}
	to := api.Pointer{Cur: m.Version, Prev: was.Cur, Epoch: m.Epoch, Seq: m.Seq}
	if m.Kind == api.MsgBack {
		to.Cur, to.Prev = was.Cur, was.Cur
		if was.Epoch == m.Epoch {
			to.Cur, to.Prev = was.Prev, was.Prev
		}
	}
	return &to
}

// node: what a node has changes by orders that it acknowledges, and by nothing else; behind a boot it is what it was, or what the order said that was broken off.
func (w *witness) node(n int, op api.Op, list []api.Event, was, now api.NodeView, head *api.Msg) {
	w.t.Helper()
	k := &w.nodes[n]
	if was.Up && !now.Up != hasEvent(list, api.EvDown, n) {
		w.fail("node %d is down: %v; %+v", n, !now.Up, list)
	}
	if op.Kind != api.OpTurn || op.Node != n {
		head = nil
	}
	switch {
	case was.Up && !now.Up:
		k.ahead, k.next = was.Has, writes(was.Has, head)
		w.saw("down in " + digits(op.Kind))
	case !was.Up && now.Up:
		p := pointerOf(now.Has)
		switch {
		case p == pointerOf(k.ahead):
			w.saw("old")
		case k.next != nil && p == *k.next:
			w.saw("new")
			w.carries(n, k.ahead.Cur, p)
		default:
			w.fail("node %d has %+v; it had %+v, and was to write %+v", n, now.Has, k.ahead, k.next)
		}
	case was.Up && pointerOf(was.Has) != pointerOf(now.Has):
		p, to := pointerOf(now.Has), writes(was.Has, head)
		if to == nil || *to != p {
			w.fail("node %d had %+v, and has %+v; the order was %+v", n, was.Has, now.Has, head)
		}
		if len(list) != 1 || list[0].Kind != api.EvSent || list[0].M.Code != api.OK || list[0].M.Epoch != p.Epoch || list[0].M.Seq != p.Seq || list[0].M.Version != p.Cur || list[0].M.Prev != p.Prev {
			w.fail("node %d carried out %+v, and tells %+v", n, head, list)
		}
		w.carries(n, was.Has.Cur, p)
	}
}

func (w *witness) carries(n, cur int, p api.Pointer) {
	w.t.Helper()
	j := w.jobs[p.Epoch]
	if j == nil {
		w.fail("node %d carried out an order of job %d, which nobody began", n, p.Epoch)
	}
	if p.Seq == 1 {
		j.carried[n] = cur
	}
}

// inboxes: which frames wait at the nodes.
func (w *witness) inboxes(op api.Op, list []api.Event, before api.View) {
	w.t.Helper()
	switch {
	case isRefused(list):
	case op.Kind == api.OpDeliver:
		l := before.Flight[op.I]
		if l.To < len(w.nodes) && !hasEvent(list, api.EvLost, l.To) {
			w.nodes[l.To].inbox = append(w.nodes[l.To].inbox, told(w.t, []api.Letter{l})...)
		} else if l.To < len(w.nodes) {
			w.saw("lost")
			if n := before.Nodes[l.To]; n.Up && n.Inbox < api.MaxInbox {
				w.fail("a frame to node %d was lost", l.To)
			}
		}
	case op.Kind == api.OpTurn && len(w.nodes[op.Node].inbox) > 0:
		w.nodes[op.Node].inbox = w.nodes[op.Node].inbox[1:]
	}
	for n, v := range w.view.Nodes {
		if !v.Up {
			w.nodes[n].inbox = nil
		}
		if v.Inbox != len(w.nodes[n].inbox) {
			w.fail("node %d has %d frames, not %d", n, v.Inbox, len(w.nodes[n].inbox))
		}
	}
}

// logOf is what the controller's disk says of its last job: number and outcome.
func (w *witness) logOf() (number, outcome int) {
	w.t.Helper()
	for _, s := range w.m.Files(deskNumber) {
		if s.Path == "job" {
			lines := strings.Split(s.Data, "\n")
			number, _ = strconv.Atoi(strings.TrimPrefix(lines[1], "number "))
			outcome, _ = strconv.Atoi(strings.TrimPrefix(lines[4], "outcome "))
		}
	}
	return number, outcome
}

// jobBegins: which job is going on.
func (w *witness) jobBegins(op api.Op, list []api.Event) {
	w.t.Helper()
	kind := map[int]int{api.OpSwap: api.JobSwap, api.OpBack: api.JobBack, api.OpLook: api.JobLook}[op.Kind]
	switch {
	case isRefused(list):
		return
	case kind != 0:
		w.begins(kind, op.I, hasEvent(list, api.EvDown, deskNumber))
	case op.Kind == api.OpRevive && w.view.Ruling:
		w.revives()
	}
	if hasEvent(list, api.EvDown, deskNumber) && w.open != nil {
		w.open.resumed = true
	}
}

func (w *witness) begins(kind, version int, broken bool) {
	w.t.Helper()
	if kind == api.JobLook {
		version = 0
	} else {
		w.fresh = 0
	}
	w.calm = nil
	j := &affair{number: w.last + 1, kind: kind, version: version, clean: true, had: map[int]int{}, seen: map[[2]int]bool{}, carried: map[int]int{}, backed: map[int]int{}}
	for _, other := range w.jobs {
		j.clean = j.clean && other.reported && other.outcome != api.Incomplete
	}
	for n, v := range w.view.Nodes {
		if v.Up {
			j.had[n] = v.Has.Cur
		} else if w.nodes[n].next == nil {
			j.had[n] = w.nodes[n].ahead.Cur
		}
	}
	if broken {
		w.ghost = j
		w.saw("a Begin that was broken off")
		return
	}
	w.last, w.jobs[j.number], w.open = j.number, j, j
	w.saw("job " + digits(kind))
	if number, _ := w.logOf(); number != j.number {
		w.fail("job %d was begun, the log says %d", j.number, number)
	}
}

// revives: the job that was open goes on, or has ended without a report.
func (w *witness) revives() {
	w.t.Helper()
	number, outcome := w.logOf()
	if g := w.ghost; g != nil && number == g.number {
		w.last, w.jobs[number], w.open = number, g, g
		g.resumed = true
		w.saw("a Begin that was broken off and survived")
	}
	w.ghost = nil
	isOpen := number > 0 && outcome == 0
	if isOpen != w.view.Busy {
		w.fail("the log says job %d, outcome %d; a job goes on: %v", number, outcome, w.view.Busy)
	}
	switch {
	case isOpen && (w.open == nil || w.open.number != number):
		w.fail("job %d goes on, which was reported, or which no step ordered", number)
	case isOpen:
		w.saw("a job goes on behind a boot")
	case w.open != nil:
		w.saw("a job ended without a report")
		w.open.closed, w.open = true, nil
	}
}

// letters: what the controller sends is of the job that is going on, and no Swap comes behind a Back.
func (w *witness) letters() {
	w.t.Helper()
	for _, l := range w.view.Flight {
		if l.Id <= w.lastId {
			continue
		}
		w.lastId = l.Id
		m := told(w.t, []api.Letter{l})[0]
		if l.From != api.AddrControl || w.ops[len(w.ops)-1].Kind == api.OpCopy {
			continue
		}
		j := w.jobs[m.Id]
		if j == nil || j.closed {
			w.fail("the controller sends %+v", m)
		}
		if (j.resumed || j.backs) && m.Kind != api.MsgBack {
			w.fail("the controller sends %+v behind a Back", m)
		}
		j.backs = j.backs || m.Kind == api.MsgBack
	}
}

// job: what is current on the nodes while a job is going on, behind Succeeded, and behind Restored.
func (w *witness) job() {
	w.t.Helper()
	if w.view.Ruling && w.view.Busy != (w.open != nil) {
		w.fail("a job goes on: %v", w.view.Busy)
	}
	for n, v := range w.view.Nodes {
		if !v.Up {
			continue
		}
		if w.open != nil {
			w.open.seen[[2]int{n, v.Has.Cur}] = true
		}
		if w.fresh != 0 && v.Has.Cur != w.fresh {
			w.fail("version %d was reported, node %d has %d", w.fresh, n, v.Has.Cur)
		}
		if had, known := 0, false; w.calm != nil {
			if had, known = w.calm.had[n]; known && had != v.Has.Cur {
				w.fail("job %d was restored, node %d had %d, and has %d", w.calm.number, n, had, v.Has.Cur)
			}
		}
	}
}

// serves: what a node that is up has is just what was built.
func (w *witness) serves(n int) {
	w.t.Helper()
	v := w.view.Nodes[n]
	if v.Id != n {
		w.fail("node %d has the number %d", n, v.Id)
	}
	if !v.Up {
		looksLike(w.t, "a node that is down", v, api.NodeView{Id: n})
		return
	}
	if v.Has.Cur != 0 && !slices.Contains(v.Has.Have, v.Has.Cur) {
		w.fail("node %d has not its current version: %+v", n, v.Has)
	}
	files := map[int]int{}
	for _, s := range w.m.Files(n) {
		rest, ok := strings.CutPrefix(s.Path, "store/version-")
		number, name, in := strings.Cut(rest, "/")
		version, _ := strconv.Atoi(number)
		if !ok || !in || !slices.Contains(v.Has.Have, version) {
			continue
		}
		files[version]++
		if data, there := w.made[version]["node-"+digits(n)+"/"+name]; !there || data != s.Data || s.Kind != api.IsFile {
			w.fail("node %d: %s is not what was built: %q", n, s.Path, s.Data)
		}
	}
	for _, version := range v.Has.Have {
		count := 0
		for name := range w.made[version] {
			if strings.HasPrefix(name, "node-"+digits(n)+"/") {
				count++
			}
		}
		if w.data[version] == nil || files[version] != count {
			w.fail("node %d has version %d, with %d files; %d were built", n, version, files[version], count)
		}
	}
}

// tells: the events.
func (w *witness) tells(op api.Op, list []api.Event, before api.View) {
	w.t.Helper()
	if !isRefused(list) {
		keys := op.Keys
		if op.Kind == api.OpGet {
			keys = []string{op.Key}
		}
		if op.Kind == api.OpGet || op.Kind == api.OpGetAll {
			for _, key := range keys {
				w.tickets = append(w.tickets, ticket{key, w.steps})
			}
		}
	}
	for _, e := range list {
		switch e.Kind {
		case api.EvSent:
			w.sends(e, before)
		case api.EvReport:
			w.reports(e.Report)
		case api.EvGot:
			w.gets(e.Outcome)
		case api.EvAudited:
			w.audits(e.Audited)
		case api.EvExported:
			w.exports(e.Exported)
		}
	}
}

func (w *witness) sends(e api.Event, before api.View) {
	w.t.Helper()
	m, now := e.M, w.view.Nodes[e.Node]
	if m.From != e.Node || !now.Up {
		w.fail("a node sends %+v", e)
	}
	isOK := m.Code == api.OK || m.Code == api.ErrNoKey
	switch {
	case m.Kind == api.MsgGot && isOK:
		w.gots = append(w.gots, gotten{w.steps, e.Node, m})
		value, there := w.data[m.Version][m.Key]
		if m.Version != now.Has.Cur || m.Version == 0 || there != (m.Code == api.OK) || value != m.Value {
			w.fail("node %d answers %+v; %q, %v", e.Node, m, value, there)
		}
		if !slices.Contains(w.owners(m.Key), e.Node) {
			w.fail("node %d answers %+v and is no owner", e.Node, m)
		}
		if w.fresh != 0 && m.Version != w.fresh {
			w.fail("version %d was reported, node %d answers %+v", w.fresh, e.Node, m)
		}
		w.saw("got " + digits(int(m.Code)))
	case m.Kind == api.MsgBacked && m.Code == api.OK:
		j := w.jobs[m.Epoch]
		if j == nil {
			w.fail("node %d acknowledges %+v", e.Node, m)
		}
		cur, did := j.carried[e.Node]
		if !did {
			cur = before.Nodes[e.Node].Has.Cur
		}
		if m.Version != now.Has.Cur || m.Version != cur {
			w.fail("node %d acknowledges %+v, and has %+v; it had %d", e.Node, m, now.Has, cur)
		}
		if old, again := j.backed[e.Node]; again && old != m.Version {
			w.fail("node %d acknowledges %+v; it said %d", e.Node, m, old)
		}
		j.backed[e.Node] = m.Version
	case m.Kind == api.MsgSwapped && m.Code == api.OK:
		if m.Version != now.Has.Cur || m.Epoch != now.Has.Epoch || m.Seq != now.Has.Seq {
			w.fail("node %d acknowledges %+v, and has %+v", e.Node, m, now.Has)
		}
	}
}

func (w *witness) owners(key string) []int {
	place, e := ring.Locate(w.c, key)
	if e != api.OK {
		return nil
	}
	owners, _ := ring.Owners(w.c, place.Part)
	return owners
}

// reports: what the controller says of a job.
func (w *witness) reports(r api.Report) {
	w.t.Helper()
	j := w.open
	if j == nil || r.Job != j.number || r.Kind != j.kind || r.Version != j.version || len(r.Holds) != len(w.nodes) {
		w.fail("the report %+v; the job is %+v", r, j)
	}
	j.closed, j.reported, j.outcome, w.open = true, true, r.Outcome, nil
	w.saw(fmt.Sprint("report ", r.Kind, " ", r.Outcome))
	if (r.Outcome == api.Incomplete) != (len(r.Missing) > 0) {
		w.fail("the report %+v", r)
	}
	for n, holds := range r.Holds {
		backed, did := j.backed[n]
		switch {
		case slices.Contains(r.Missing, n):
			if holds != -1 {
				w.fail("the report %+v", r)
			}
		case r.Kind == api.JobLook:
			if !j.seen[[2]int{n, holds}] {
				w.fail("the report %+v; seen: %v", r, j.seen)
			}
		case r.Outcome == api.Succeeded:
			if j.resumed || holds != j.version || !j.seen[[2]int{n, j.version}] && w.view.Nodes[n].Has.Cur != j.version {
				w.fail("the report %+v; the job %+v", r, j)
			}
		case !did || holds != backed:
			w.fail("the report %+v; acknowledged: %v", r, j.backed)
		}
	}
	switch {
	case r.Kind == api.JobLook:
	case r.Outcome == api.Succeeded:
		w.fresh, w.since = j.version, w.steps
	case r.Outcome == api.Restored && j.clean:
		w.calm = j
		w.saw("restored in a clean run")
	}
}

// gets: an outcome says what an owner said behind the get's step.
func (w *witness) gets(o api.Outcome) {
	w.t.Helper()
	if o.Ticket < 1 || o.Ticket > len(w.tickets) || w.tickets[o.Ticket-1].key != o.Key {
		w.fail("the outcome %+v", o)
	}
	opened := w.tickets[o.Ticket-1].step
	w.saw("outcome " + digits(int(o.Code)))
	if o.Code != api.OK && o.Code != api.ErrNoKey {
		looksLike(w.t, "the outcome", o, api.Outcome{Ticket: o.Ticket, Key: o.Key, Code: api.ErrNoAnswer, Node: -1})
		return
	}
	found := slices.ContainsFunc(w.gots, func(g gotten) bool {
		return g.step > opened && g.node == o.Node && g.m.Id == o.Ticket && g.m.Key == o.Key && g.m.Code == o.Code && g.m.Version == o.Version && g.m.Value == o.Value
	})
	if !found {
		w.fail("nobody said the outcome %+v", o)
	}
	if w.fresh != 0 && opened > w.since && o.Version != w.fresh {
		w.fail("version %d was reported, the outcome is %+v", w.fresh, o)
	}
}

// audits: no two replicas ever differ.
func (w *witness) audits(a api.Audited) {
	w.t.Helper()
	w.saw("audited " + digits(a.Outcome))
	if len(a.Differ) > 0 || a.Outcome == api.AuditUnlike || (a.Outcome == api.AuditAlike) != (len(a.Missing) == 0) {
		w.fail("the audit %+v", a)
	}
}

// exports: just the pairs that the version has, of every partition that is not missing.
func (w *witness) exports(x api.Exported) {
	w.t.Helper()
	parts := 0
	for _, n := range w.c.Nodes {
		parts += len(n.Parts)
	}
	w.saw(fmt.Sprint("exported, all missing: ", len(x.Missing) == parts, ", some missing: ", len(x.Missing) > 0))
	type placed struct {
		api.Place
		api.Pair
	}
	var list []placed
	for key, value := range w.data[x.Version] {
		place, _ := ring.Locate(w.c, key)
		if !slices.Contains(x.Missing, place.Part) {
			list = append(list, placed{place, api.Pair{Key: key, Value: value}})
		}
	}
	slices.SortFunc(list, func(a, b placed) int {
		return cmp.Or(cmp.Compare(a.Part, b.Part), cmp.Compare(a.Chunk, b.Chunk), cmp.Compare(a.Hash, b.Hash), cmp.Compare(a.Key, b.Key))
	})
	var want []api.Pair
	for _, p := range list {
		want = append(want, p.Pair)
	}
	if w.data[x.Version] == nil && len(x.Missing) != parts {
		w.fail("the export %+v", x)
	}
	looksLike(w.t, "what was exported", x.Pairs, want)
}

// loads: over what Files answers another machine stands as this one does, or will do behind its nodes' boots.
func (w *witness) loads() {
	w.t.Helper()
	var files [][]api.Stored
	full := false
	used := func(list []api.Stored, room int) []api.Stored {
		sum := 0
		for _, s := range list {
			sum += len(s.Data)
		}
		full = full || sum > room
		return list
	}
	for n := range w.nodes {
		files = append(files, used(w.m.Files(n), w.c.Room))
	}
	m, e := Load(w.text, used(w.m.Files(depotNumber), w.c.Depot), w.m.Files(deskNumber), files)
	if full {
		w.saw("a disk that holds more than it can")
		is(w.t, "Load", e, api.ErrFull)
		return
	}
	if e != api.OK || m == nil {
		w.fail("Load: %v, %d", m, e)
	}
	v := m.Look()
	for n, k := range w.nodes {
		if !w.view.Nodes[n].Up {
			if k.armed {
				w.saw("a Load of a disk that may be down")
				continue
			}
			w.saw("a Load of a disk whose node is down")
			w.do(api.Op{Kind: api.OpBoot, Node: n})
		}
		if !v.Nodes[n].Up {
			w.fail("node %d is not up behind Load", n)
		}
		looksLike(w.t, "behind Load", v.Nodes[n].Has, w.view.Nodes[n].Has)
	}
	w.saw("a Load")
}
