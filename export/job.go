package export

import (
	"strings"

	"granary/api"
)

// job is an export that goes on.
type job struct {
	told   api.Exported // what came of the partitions that are behind
	part   int          // the partition that is taken up
	left   int          // how many owners in its row were left; the one behind them is asked
	read   []api.Pair   // the pairs that were read of it
	wanted saying       // what an answer to the question of now says
	at     int          // the time at which this question was sent
}

// saying is what a message says of the question that it answers.
type saying struct {
	from, job, part, version, place int
}

func sayingOf(m api.Msg) saying {
	return saying{from: m.From, job: m.Id, part: m.Seq, version: m.Version, place: m.Prev}
}

// isAnswer tells whether a message answers the question of now, if there is one.
func (x *Export) isAnswer(m api.Msg) bool {
	return x.Busy() && m.Kind == api.MsgScanned && sayingOf(m) == x.job.wanted
}

// ask sends the question that is now the one.
func (x *Export) ask() []api.Msg {
	j := &x.job
	w := saying{from: x.rows[j.part][j.left], job: j.told.Job, part: j.part, version: j.told.Version, place: len(j.read)}
	j.wanted, j.at = w, x.now
	return []api.Msg{{Kind: api.MsgScan, From: api.AddrExport, To: w.from, Id: w.job, Seq: w.part, Version: w.version, Prev: w.place}}
}

// takeUp begins with a partition. Behind the last one the export ends: what it came to is all that is kept of it.
func (x *Export) takeUp(part int) []api.Msg {
	if part == len(x.rows) {
		x.last, x.job = x.job.told, job{}
		return nil
	}
	x.job.part, x.job.left, x.job.read = part, 0, nil
	return x.ask()
}

// hear lets the answer come, and tells what is asked next.
func (x *Export) hear(m api.Msg) []api.Msg {
	j := &x.job
	switch {
	case m.Code == api.ErrEnd:
		j.told.Pairs = append(j.told.Pairs, j.read...)
		return x.takeUp(j.part + 1)
	case m.Code == api.OK && len(j.read) < api.MaxPairs:
		// Texts that are pieces of a longer one would keep all of it, if they were not copied.
		j.read = append(j.read, api.Pair{Key: strings.Clone(m.Key), Value: strings.Clone(m.Value)})
		return x.ask()
	}
	return x.leave()
}

// leave lets the owner that is asked be asked no more of this partition. The next one goes on at the same place; without one, the partition is missing.
func (x *Export) leave() []api.Msg {
	j := &x.job
	j.left++
	if j.left < len(x.rows[j.part]) {
		return x.ask()
	}
	j.told.Missing = append(j.told.Missing, j.part)
	return x.takeUp(j.part + 1)
}
