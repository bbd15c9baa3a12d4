package steward

import (
	"granary/api"
	"granary/control"
	"granary/disk"
	"granary/joblog"
)

// The plain reading of the chapter: the controller is what a log says and the calls that were made since, and is made anew out of these where one of them is to be forgotten. It has a disk of its own.

type reading struct {
	c     api.Cluster
	d     *disk.Disk
	up    bool
	log   joblog.Entry                                      // that was there at Boot
	calls []func(k *control.Control) ([]api.Msg, api.Errno) // since then
	k     *control.Control
}

// anew is the controller out of the log and the calls.
func (r *reading) anew() []api.Msg {
	k, list, _ := control.Resume(r.c, r.log.Number, r.log.Kind, r.log.Version, r.log.Number > 0 && r.log.Outcome == 0)
	for _, call := range r.calls {
		call(k)
	}
	r.k = k
	return list
}

func (r *reading) down() { r.up, r.calls, r.k = false, nil, nil }

func (r *reading) boot() ([]api.Msg, api.Errno) {
	if r.up {
		return nil, api.ErrOn
	}
	kind, e := r.d.Kind("job")
	if e != api.OK && e != api.ErrNone {
		return nil, e
	}
	r.log = joblog.Entry{}
	if e == api.OK {
		if kind == api.IsDir {
			return nil, api.ErrKind
		}
		size, _ := r.d.Size("job")
		text, _ := r.d.Read("job", 0, size)
		if r.log, e = plainly(text); e != api.OK {
			return nil, e
		}
	}
	list, _ := r.d.List("")
	for _, x := range list {
		if x.Name == "job.new" {
			if e := sweeping(r.d); e != api.OK {
				return nil, e
			}
		}
	}
	r.up, r.calls = true, nil
	return r.anew(), api.OK
}

func (r *reading) halt() api.Errno {
	if !r.up {
		return api.ErrOff
	}
	r.down()
	return api.OK
}

func (r *reading) begin(kind, version int) ([]api.Msg, api.Errno) {
	if !r.up {
		return nil, api.ErrOff
	}
	call := func(k *control.Control) ([]api.Msg, api.Errno) { return k.Begin(kind, version) }
	list, e := call(r.k)
	if e != api.OK {
		return nil, e
	}
	outcome := 0
	if kind == 3 {
		outcome = 3
	}
	switch e := writing(list[0].Id, kind, version, outcome)(r.d); e {
	case api.OK:
		r.calls = append(r.calls, call)
		return list, api.OK
	case api.ErrFull:
		r.anew()
		return nil, e
	default:
		r.down()
		return nil, e
	}
}

// does is a Take, a Tick or a Stop.
func (r *reading) does(call func(k *control.Control) ([]api.Msg, api.Errno)) ([]api.Msg, api.Errno) {
	if !r.up {
		return nil, api.ErrOff
	}
	busy := r.k.Busy()
	list, e := call(r.k)
	r.calls = append(r.calls, call)
	if e != api.OK || !busy || r.k.Busy() {
		return list, e
	}
	x, _ := r.k.Report()
	if x.Kind == api.JobLook {
		return list, e
	}
	if e := writing(x.Job, x.Kind, x.Version, x.Outcome)(r.d); e != api.OK {
		r.down()
		return nil, e
	}
	return list, e
}

func (r *reading) busy() bool { return r.up && r.k.Busy() }

func (r *reading) report() (api.Report, api.Errno) {
	if !r.up {
		return api.Report{}, api.ErrOff
	}
	return r.k.Report()
}
