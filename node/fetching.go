package node

import (
	"granary/api"
	"granary/digest"
	"granary/engine"
	"granary/fetch"
	"granary/paper"
	"granary/plain"
	"granary/throttle"
)

// fetching is the fetch that is going on.
type fetching struct {
	last   api.Msg          // the MsgFetch that asked for it last: that one is answered when it ends
	asked  bool             // what it wants was told, and nothing came of that yet
	budget *throttle.Budget // of tries for the manifest
	next   int              // the time from which the next of them may be made
	job    *fetch.Job       // nil: it is after the manifest
}

// state is how far it is.
func (f *fetching) state() api.FetchState {
	switch {
	case f == nil:
		return api.FetchState{}
	case f.job == nil:
		return api.FetchState{Version: f.last.Version, Phase: api.FetchRunning}
	}
	return f.job.State()
}

// ask tells what it wants at a time.
func (f *fetching) ask(now int) (api.Want, api.Errno) {
	switch {
	case f.job != nil:
		return f.job.Ask()
	case now < f.next:
		return api.Want{}, api.ErrWait
	}
	return api.Want{Version: f.last.Version, File: plain.ManifestName}, api.OK
}

// Want tells what its fetch asks the repository for.
func (n *Node) Want() (api.Want, api.Errno) {
	if e := n.ready(); e != api.OK {
		return api.Want{}, e
	}
	if n.fetch == nil {
		return api.Want{}, api.ErrOver
	}
	want, e := n.fetch.ask(n.now)
	if e == api.OK {
		n.fetch.asked = true
	}
	return want, e
}

// Feed hands in what the repository gave; it answers the frames that go out.
func (n *Node) Feed(code api.Errno, data string, crc int) []string {
	if !n.Up() {
		return nil
	}
	return n.outgoing(n.feed(code, data, crc))
}

func (n *Node) feed(code api.Errno, data string, crc int) []api.Msg {
	f := n.fetch
	if f == nil || !f.asked {
		return nil
	}
	f.asked = false
	switch {
	case code == api.ErrUnbuilt:
		return n.end(code)
	case f.job == nil:
		return n.feedManifest(code, data, crc)
	case code == api.OK:
		f.job.Put(data, crc) // what came of it the job's state tells
	default:
		f.job.Miss()
	}
	return n.judge()
}

// end lets the fetch be no more, and says what became of it.
func (n *Node) end(code api.Errno) []api.Msg {
	last := n.fetch.last
	n.fetch = nil
	return fetched(last, code)
}

// feedManifest begins the job, if what came is the manifest.
func (n *Node) feedManifest(code api.Errno, data string, crc int) []api.Msg {
	f, c := n.fetch, n.cluster
	if cause := n.wrong(code, data, crc); cause != api.OK {
		return n.fail(cause)
	}
	job, e := fetch.Begin(n.disk, engine.PartialDir(f.last.Version), data, api.Limits{
		Block: c.Block, Rate: c.Rate, Per: c.Per, Burst: c.Burst, Tries: c.Tries, Base: c.Base, Most: c.Most, Quota: c.Quota,
	})
	if e != api.OK {
		return n.end(e)
	}
	f.job, f.budget = job, nil // the job has a budget of its own
	return n.judge()
}

// wrong tells why what came is not the manifest that is asked for.
func (n *Node) wrong(code api.Errno, data string, crc int) api.Errno {
	if code != api.OK {
		return api.ErrLost
	}
	if digest.CRC(data) != crc {
		return api.ErrBlock
	}
	m, e := paper.ParseManifest(data)
	if e != api.OK {
		return e
	}
	if m.Store != n.cluster.Store || m.Version != n.fetch.last.Version || m.Node != n.id {
		return api.ErrOther
	}
	return api.OK
}

// fail tells the budget that a try for the manifest was in vain.
func (n *Node) fail(cause api.Errno) []api.Msg {
	f := n.fetch
	next, e := f.budget.Fail(api.Item{Node: n.id, File: f.last.Version}, n.now)
	if e != api.OK {
		return n.end(cause)
	}
	f.next = next
	return nil
}

// judge ends the fetch, if its job has ended.
func (n *Node) judge() []api.Msg {
	s := n.fetch.job.State()
	switch s.Phase {
	case api.FetchFailed:
		return n.end(s.Why)
	case api.FetchDone:
		return n.end(n.admit(s.Version))
	}
	return nil
}

// admit lets what was fetched be a version. What the engine refuses would be refused again, so it goes.
func (n *Node) admit(version int) api.Errno {
	e := n.engine.Admit(version)
	if e != api.OK {
		fetch.Sweep(n.disk, engine.PartialDir(version))
	}
	return e
}
