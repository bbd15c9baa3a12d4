package sorter

import (
	"granary/api"
	"granary/disk"
	"granary/plain"
)

// run gives the rows of a run's file. It holds none of them: each is read when it is asked for.
type run struct {
	disk *disk.Disk
	path string
	at   int // where the next row begins
}

func (r *run) next() (api.Row, api.Errno) {
	head, e := r.disk.Read(r.path, r.at, headBytes)
	if e != api.OK {
		return api.Row{}, e
	}
	if head == "" {
		return api.Row{}, api.ErrEnd
	}
	if len(head) < headBytes {
		return api.Row{}, api.ErrState
	}
	row, e := r.body(head)
	if e != api.OK {
		return api.Row{}, e
	}
	r.at += weigh(row)
	return row, api.OK
}

// body reads what stands behind a row's head. A row that is not whole is none of the sorter's: somebody else wrote into its file.
func (r *run) body(head string) (api.Row, api.Errno) {
	keyAt := seqBytes + hashBytes
	valueAt := keyAt + keyBytes
	hash := plain.Take(head[seqBytes:keyAt])
	key := hash + plain.Take(head[keyAt:valueAt])
	all := key + plain.Take(head[valueAt:])
	body, e := r.disk.Read(r.path, r.at+headBytes, all)
	if e != api.OK {
		return api.Row{}, e
	}
	if len(body) < all {
		return api.Row{}, api.ErrState
	}
	return api.Row{Hash: body[:hash], Key: body[hash:key], Value: body[key:], Seq: plain.Take(head[:seqBytes])}, api.OK
}
