package engine

import (
	"cmp"

	"granary/acts"
	"granary/api"
	"granary/paper"
	"granary/plain"
)

// Swap makes a version current, by an order.
func (e *Engine) Swap(version, epoch, seq int) api.Errno {
	if why := e.mayOrder(epoch, seq); why != api.OK {
		return why
	}
	if !plain.IsVersion(version) {
		return api.ErrVersion
	}
	way := e.pastFence(epoch, seq)
	switch {
	case way == 0 && version == e.latest.Cur:
		return api.OK
	case way <= 0:
		return api.ErrStale
	case !e.has(version):
		return api.ErrAbsent
	}
	return e.write(api.Pointer{Cur: version, Prev: e.latest.Cur, Epoch: epoch, Seq: seq})
}

// Rollback undoes the swap of an epoch.
func (e *Engine) Rollback(epoch, seq int) api.Errno {
	if why := e.mayOrder(epoch, seq); why != api.OK {
		return why
	}
	way := e.pastFence(epoch, seq)
	switch {
	case way == 0:
		return api.OK
	case way < 0:
		return api.ErrStale
	}
	back := e.latest.Cur // that swap never came here
	if epoch == e.latest.Epoch {
		back = e.latest.Prev
	}
	if back != 0 && !e.has(back) {
		return api.ErrAbsent
	}
	return e.write(api.Pointer{Cur: back, Prev: back, Epoch: epoch, Seq: seq})
}

func (e *Engine) mayOrder(epoch, seq int) api.Errno {
	if why := e.ready(); why != api.OK {
		return why
	}
	if min(epoch, seq) < 0 || max(epoch, seq) > api.MaxNumber {
		return api.ErrArg
	}
	return api.OK
}

// pastFence is below 0 for an order below the fence, 0 for the fence itself, above 0 for one above it.
func (e *Engine) pastFence(epoch, seq int) int {
	return cmp.Or(cmp.Compare(epoch, e.latest.Epoch), cmp.Compare(seq, e.latest.Seq))
}

// write lets another pointer be the store's. It gets its name when it is safe: a crash leaves the old one or the new one.
func (e *Engine) write(p api.Pointer) api.Errno {
	d := e.disk
	text, _ := paper.PrintPointer(p) // versions and orders are within a pointer's ranges
	why := e.run(
		acts.On(newPath, d.Create),
		acts.On(newPath, acts.With(d.Append, text)),
		acts.On(newPath, d.Sync),
		acts.On(newPath, acts.With(d.Rename, latestPath)),
		acts.On(plain.StoreName, d.SyncDir))
	switch why {
	case api.OK:
		e.latest = p
	case api.ErrFull: // the text found no room: with the file taken back all is as it was
		if worse := e.run(acts.On(newPath, d.Remove)); worse != api.OK {
			return worse
		}
	}
	return why
}
