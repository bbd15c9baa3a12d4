package node

import (
	"granary/api"
	"granary/digest"
	"granary/disk"
	"granary/engine"
	"granary/fetch"
	"granary/frame"
	"granary/paper"
	"granary/ring"
)

// The plain reading of the chapter: it works on a disk of its own, has a list for an inbox, and counts the manifest's failures by itself.

type reading struct {
	c     api.Cluster
	id    int
	d     *disk.Disk
	isUp  bool
	x     *engine.Engine
	inbox []string
	now   int

	// the fetch, if version is not 0
	version, epoch, ask, from int
	job                       *fetch.Job
	manifestAsked             bool
	failed, next              int
}

func readNew(c api.Cluster, id int, d *disk.Disk) (*reading, api.Errno) {
	if d == nil {
		return nil, api.ErrNil
	}
	if _, e := ring.Holds(c, id); e != api.OK {
		return nil, e
	}
	return &reading{c: c, id: id, d: d}, api.OK
}

func (r *reading) boot() api.Errno {
	if r.isUp {
		return api.ErrOn
	}
	x, e := engine.Open(r.d, r.c, r.id)
	if e == api.OK {
		*r = reading{c: r.c, id: r.id, d: r.d, isUp: true, x: x}
	}
	return e
}

func (r *reading) goDown() { *r = reading{c: r.c, id: r.id, d: r.d} }

func (r *reading) halt() api.Errno {
	if !r.isUp {
		return api.ErrOff
	}
	r.goDown()
	return api.OK
}

func (r *reading) post(text string) api.Errno {
	if !r.isUp {
		return api.ErrOff
	}
	if len(r.inbox) == 16 {
		return api.ErrInbox
	}
	r.inbox = append(r.inbox, text)
	return api.OK
}

// out is what goes out, if the disk is not down.
func (r *reading) out(list []api.Msg) []api.Msg {
	if r.isUp && r.d.Down() {
		r.goDown()
		return nil
	}
	return list
}

func (r *reading) noFetch() {
	r.version, r.epoch, r.ask, r.from, r.job, r.manifestAsked, r.failed, r.next = 0, 0, 0, 0, nil, false, 0, 0
}

func (r *reading) ends(code api.Errno) []api.Msg {
	m := api.Msg{Kind: 4, From: r.id, To: r.from, Id: r.ask, Epoch: r.epoch, Version: r.version, Code: code}
	r.noFetch()
	return []api.Msg{m}
}

func (r *reading) turn() []api.Msg {
	if !r.isUp || len(r.inbox) == 0 {
		return r.out(nil)
	}
	text := r.inbox[0]
	r.inbox = r.inbox[1:]
	m, e := frame.Decode(text)
	if e != api.OK || m.To != r.id {
		return r.out(nil)
	}
	a := api.Msg{From: r.id, To: m.From, Id: m.Id}
	switch m.Kind {
	case 1:
		a.Kind = 2
	case 3:
		return r.out(r.fetchOrder(m, a))
	case 5, 7:
		a.Kind, a.Epoch, a.Seq = m.Kind+1, m.Epoch, m.Seq
		if m.Kind == 5 {
			a.Code = r.x.Swap(m.Version, m.Epoch, m.Seq)
		} else if a.Code = r.x.Rollback(m.Epoch, m.Seq); a.Code == api.OK && r.version != 0 && !(r.epoch > m.Epoch) {
			r.noFetch()
		}
		s := r.x.State()
		a.Version, a.Prev = s.Cur, s.Prev
	case 9:
		s := r.x.State()
		a.Kind, a.Epoch, a.Seq, a.Version, a.Prev = 10, s.Epoch, s.Seq, s.Cur, s.Prev
	case 11:
		x, e := r.x.Get(m.Key)
		a.Kind, a.Key = 12, m.Key
		if e != api.OK {
			a.Code = e
		} else if !x.Found {
			a.Code, a.Version = api.ErrNoKey, x.Version
		} else {
			a.Version, a.Value = x.Version, x.Value
		}
	case 13:
		sum, n, e := r.x.Sum(m.Version, m.Seq)
		a.Kind, a.Seq, a.Version = 14, m.Seq, m.Version
		if e != api.OK {
			a.Code = e
		} else {
			a.Prev, a.Value = n, sum
		}
	case 15:
		p, e := r.x.Entry(m.Version, m.Seq, m.Prev)
		a.Kind, a.Seq, a.Version, a.Prev = 16, m.Seq, m.Version, m.Prev
		if e != api.OK {
			a.Code = e
		} else {
			a.Key, a.Value = p.Key, p.Value
		}
	default:
		return r.out(nil)
	}
	return r.out([]api.Msg{a})
}

func (r *reading) fetchOrder(m, a api.Msg) []api.Msg {
	a.Kind, a.Epoch, a.Version = 4, m.Epoch, m.Version
	says := func(code api.Errno) []api.Msg { a.Code = code; return []api.Msg{a} }
	if m.Version < 1 || m.Version > 999999 {
		return says(api.ErrVersion)
	}
	s := r.x.State()
	if m.Epoch < s.Epoch || m.Epoch == s.Epoch && 1 < s.Seq || r.version != 0 && r.epoch > m.Epoch {
		return says(api.ErrStale)
	}
	for _, v := range s.Have {
		if v == m.Version {
			return says(api.OK)
		}
	}
	if r.version == m.Version {
		r.epoch, r.ask, r.from = m.Epoch, m.Id, m.From
		return nil
	}
	r.noFetch()
	for _, p := range r.x.Partial() {
		if p != m.Version {
			if e := fetch.Sweep(r.d, engine.PartialDir(p)); e != api.OK {
				return says(e)
			}
		}
	}
	if _, e := r.x.Prune(); e != api.OK {
		return says(e)
	}
	r.version, r.epoch, r.ask, r.from = m.Version, m.Epoch, m.Id, m.From
	return nil
}

func (r *reading) want() (api.Want, api.Errno) {
	if !r.isUp {
		return api.Want{}, api.ErrOff
	}
	if r.version == 0 {
		return api.Want{}, api.ErrOver
	}
	if r.job != nil {
		return r.job.Ask()
	}
	if r.now < r.next {
		return api.Want{}, api.ErrWait
	}
	r.manifestAsked = true
	return api.Want{Version: r.version, File: "manifest"}, api.OK
}

func (r *reading) feed(code api.Errno, data string, crc int) []api.Msg {
	if !r.isUp || r.version == 0 {
		return r.out(nil)
	}
	if r.job == nil {
		return r.out(r.feedManifest(code, data, crc))
	}
	// The job itself tells whether a block is asked for.
	if code == api.ErrUnbuilt {
		if r.job.Miss() == api.ErrWait {
			return r.out(nil)
		}
		return r.out(r.ends(api.ErrUnbuilt))
	}
	if code == api.OK {
		r.job.Put(data, crc)
	} else {
		r.job.Miss()
	}
	return r.out(r.looked())
}

// looked is what comes of the job's state.
func (r *reading) looked() []api.Msg {
	s := r.job.State()
	if s.Phase == api.FetchFailed {
		return r.ends(s.Why)
	}
	if s.Phase != api.FetchDone {
		return nil
	}
	e := r.x.Admit(r.version)
	if e != api.OK {
		fetch.Sweep(r.d, engine.PartialDir(r.version))
	}
	return r.ends(e)
}

func (r *reading) feedManifest(code api.Errno, data string, crc int) []api.Msg {
	if !r.manifestAsked {
		return nil
	}
	if code == api.ErrUnbuilt {
		return r.ends(code)
	}
	r.manifestAsked = false
	m, e := paper.ParseManifest(data)
	cause := api.OK
	if code != api.OK {
		cause = api.ErrLost
	} else if digest.CRC(data) != crc {
		cause = api.ErrBlock
	} else if e != api.OK {
		cause = e
	} else if m.Store != r.c.Store || m.Version != r.version || m.Node != r.id {
		cause = api.ErrOther
	}
	if cause != api.OK {
		r.failed++
		if r.failed == r.c.Tries {
			return r.ends(cause)
		}
		wait := r.c.Base
		for range r.failed - 1 {
			wait = min(2*wait, r.c.Most)
		}
		r.next = r.now + wait
		return nil
	}
	job, e := fetch.Begin(r.d, engine.PartialDir(r.version), data, api.Limits{Block: r.c.Block, Rate: r.c.Rate, Per: r.c.Per, Burst: r.c.Burst, Tries: r.c.Tries, Base: r.c.Base, Most: r.c.Most, Quota: r.c.Quota})
	if e != api.OK {
		return r.ends(e)
	}
	r.job = job
	return r.looked()
}

func (r *reading) tick() api.Errno {
	if !r.isUp {
		return api.ErrOff
	}
	r.now++
	if r.job != nil {
		r.job.Tick(1)
	}
	return api.OK
}

func (r *reading) look() api.NodeView {
	if !r.isUp {
		return api.NodeView{Id: r.id}
	}
	v := api.NodeView{Id: r.id, Up: true, Has: r.x.State(), Partial: r.x.Partial(), Inbox: len(r.inbox)}
	if r.job != nil {
		v.Fetch = r.job.State()
	} else if r.version != 0 {
		v.Fetch = api.FetchState{Version: r.version, Phase: api.FetchRunning}
	}
	return v
}
