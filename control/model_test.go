package control

import "granary/api"

// The plain reading of the chapter: the phase is a word, and all that is known of it is how many ticks it had and what nodes answered in it.

type reading struct {
	n, resend, limit, patience int
	number                     int    // of the last job
	phase                      string // "": no job is going on
	kind, version              int
	ticks                      int
	holds                      map[int]int // of the nodes that have answered
	report                     *api.Report
}

func readNew(c api.Cluster) *reading {
	return &reading{n: len(c.Nodes), resend: c.Resend, limit: c.Limit, patience: c.Patience}
}

// sends are the phase's messages to all that have not answered.
func (r *reading) sends() []api.Msg {
	var list []api.Msg
	for node := range r.n {
		if _, ok := r.holds[node]; ok {
			continue
		}
		m := api.Msg{From: api.AddrControl, To: node, Id: r.number}
		switch r.phase {
		case fetch:
			m.Kind, m.Epoch, m.Version = api.MsgFetch, r.number, r.version
		case swap:
			m.Kind, m.Epoch, m.Seq, m.Version = api.MsgSwap, r.number, 1, r.version
		case back:
			m.Kind, m.Epoch, m.Seq = api.MsgBack, r.number, 2
		case look:
			m.Kind = api.MsgAsk
		}
		list = append(list, m)
	}
	return list
}

func (r *reading) enter(phase string) []api.Msg {
	r.phase, r.ticks, r.holds = phase, 0, map[int]int{}
	return r.sends()
}

func (r *reading) end(outcome int) []api.Msg {
	told := &api.Report{Job: r.number, Kind: r.kind, Version: r.version, Outcome: outcome}
	for node := range r.n {
		version, ok := r.holds[node]
		if !ok {
			version = -1
			told.Missing = append(told.Missing, node)
		}
		told.Holds = append(told.Holds, version)
	}
	r.report, r.phase = told, ""
	return nil
}

func (r *reading) begin(kind, version int) ([]api.Msg, api.Errno) {
	switch {
	case r.phase != "":
		return nil, api.ErrBusy
	case wrongJob(kind, version) != api.OK:
		return nil, wrongJob(kind, version)
	case r.number+1 > most:
		return nil, api.ErrBig
	}
	r.number, r.kind, r.version = r.number+1, kind, version
	return r.enter(firstPhase(kind)), api.OK
}

// isAnswer is the chapter's table.
func (r *reading) isAnswer(m api.Msg) bool {
	if m.From < 0 || m.From >= r.n || m.Id != r.number {
		return false
	}
	switch r.phase {
	case fetch:
		return m.Kind == api.MsgFetched && m.Epoch == r.number && m.Version == r.version
	case swap:
		if m.Code == api.OK && m.Version != r.version {
			return false
		}
		return m.Kind == api.MsgSwapped && m.Epoch == r.number && m.Seq == 1
	case back:
		return m.Kind == api.MsgBacked && m.Epoch == r.number && m.Seq == 2
	case look:
		return m.Kind == api.MsgTold
	}
	return false
}

func (r *reading) take(m api.Msg) []api.Msg {
	if r.phase == "" || !r.isAnswer(m) {
		return nil
	}
	if _, ok := r.holds[m.From]; ok {
		return nil
	}
	if m.Code != api.OK {
		if r.phase == fetch || r.phase == swap {
			return r.enter(back)
		}
		return nil
	}
	r.holds[m.From] = m.Version
	if len(r.holds) < r.n {
		return nil
	}
	switch r.phase {
	case fetch:
		return r.enter(swap)
	case back:
		return r.end(api.Restored)
	}
	return r.end(api.Succeeded)
}

func (r *reading) tick() []api.Msg {
	if r.phase == "" {
		return nil
	}
	r.ticks++
	switch {
	case r.phase == fetch && r.ticks == r.patience:
		return r.enter(back)
	case r.phase != fetch && r.ticks == r.resend*r.limit:
		if r.phase == swap {
			return r.enter(back)
		}
		return r.end(api.Incomplete)
	case r.ticks%r.resend == 0:
		return r.sends()
	}
	return nil
}

func (r *reading) stop() ([]api.Msg, api.Errno) {
	switch r.phase {
	case "":
		return nil, api.ErrIdle
	case back:
		return nil, api.OK
	case look:
		return r.end(api.Incomplete), api.OK
	}
	return r.enter(back), api.OK
}

func (r *reading) revive() ([]api.Msg, api.Errno) {
	switch r.phase {
	case "":
		return nil, api.ErrIdle
	case look:
		r.holds = nil
		return r.end(api.Incomplete), api.OK
	}
	return r.enter(back), api.OK
}

func (r *reading) resume(job, kind, version int, open bool) []api.Msg {
	r.number = job
	if !open {
		return nil
	}
	r.kind, r.version = kind, version
	return r.enter(back)
}
