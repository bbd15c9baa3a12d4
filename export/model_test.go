package export

import (
	"slices"

	"granary/api"
	"granary/ring"
)

// The plain reading of the chapter: what happened stands in lists (who was left, and what was read, of each partition); the question of now is read out of them anew each time.

type leaving struct{ part, node int }

type telling struct {
	part int
	pair api.Pair
}

type reading struct {
	rows    [][]int
	getWait int
	time    int
	begun   int // exports that began
	ended   int
	version int
	behind  int // partitions
	left    []leaving
	told    []telling
	missing []int
	sent    int // the time at which the question of now was
	report  *api.Exported
}

func readNew(c api.Cluster) *reading {
	r := &reading{getWait: c.GetWait}
	for part := range api.MaxParts {
		owners, e := ring.Owners(c, part)
		if e != api.OK {
			break
		}
		slices.SortStableFunc(owners, func(a, b int) int { return away(c, a) - away(c, b) })
		r.rows = append(r.rows, owners)
	}
	return r
}

// away is 0 of a node at home, 1 of another.
func away(c api.Cluster, node int) int {
	if c.Nodes[node].Zone == c.Home {
		return 0
	}
	return 1
}

func (r *reading) open() bool { return r.begun > r.ended }

// asked is the owner that is.
func (r *reading) asked() int {
	for _, node := range r.rows[r.behind] {
		if !slices.Contains(r.left, leaving{r.behind, node}) {
			return node
		}
	}
	return -1
}

func (r *reading) countOf(part int) int {
	n := 0
	for _, x := range r.told {
		if x.part == part {
			n++
		}
	}
	return n
}

// question is that of now.
func (r *reading) question() api.Msg {
	return api.Msg{Kind: api.MsgScan, From: api.AddrExport, To: r.asked(), Id: r.begun, Seq: r.behind, Version: r.version, Prev: r.countOf(r.behind)}
}

func (r *reading) send() []api.Msg {
	r.sent = r.time
	return []api.Msg{r.question()}
}

func (r *reading) begin(version int) ([]api.Msg, api.Errno) {
	if r.open() {
		return nil, api.ErrBusy
	}
	if version < 1 || version > 999999 {
		return nil, api.ErrVersion
	}
	r.begun++
	r.version, r.behind, r.left, r.told, r.missing = version, 0, nil, nil, nil
	return r.send(), api.OK
}

func (r *reading) take(m api.Msg) []api.Msg {
	if !r.open() {
		return nil
	}
	q := r.question()
	if m.Kind != api.MsgScanned || m.From != q.To || m.Id != q.Id || m.Seq != q.Seq || m.Version != q.Version || m.Prev != q.Prev {
		return nil
	}
	if m.Code == api.ErrEnd {
		return r.goOn()
	}
	if m.Code == api.OK && q.Prev < 512 {
		r.told = append(r.told, telling{r.behind, api.Pair{Key: m.Key, Value: m.Value}})
		return r.send()
	}
	return r.leave()
}

func (r *reading) leave() []api.Msg {
	r.left = append(r.left, leaving{r.behind, r.asked()})
	if r.asked() >= 0 {
		return r.send()
	}
	r.told = slices.DeleteFunc(r.told, func(x telling) bool { return x.part == r.behind })
	r.missing = append(r.missing, r.behind)
	return r.goOn()
}

func (r *reading) goOn() []api.Msg {
	r.behind++
	if r.behind < len(r.rows) {
		return r.send()
	}
	r.ended++
	r.report = &api.Exported{Job: r.begun, Version: r.version, Missing: r.missing}
	for _, x := range r.told {
		r.report.Pairs = append(r.report.Pairs, x.pair)
	}
	return nil
}

func (r *reading) tick() []api.Msg {
	r.time++
	if r.open() && r.sent == r.time-r.getWait {
		return r.leave()
	}
	return nil
}
