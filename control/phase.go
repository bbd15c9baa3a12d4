package control

import "granary/api"

// phase is what a job is in: what it sends, what counts as an answer, and what comes of all that may happen.
type phase interface {
	message() api.Msg      // what it sends, but for what all messages have alike
	counts(m api.Msg) bool // as an answer of a node that has not answered yet
	refused() verdict      // a node answered with an error
	complete() verdict     // all nodes have answered
	tick() verdict
	stopped() verdict
	revived() verdict

	note(m api.Msg)
	missing() []int
	sending(m api.Msg) []api.Msg
	anew() round
	report(outcome int) api.Report
}

// verdict is what comes of something that happened in a phase.
type verdict int

const (
	nothing    verdict = iota
	sendAgain          // to all nodes that have not answered
	beginSwap          // the phase swap begins
	beginBack          // the phase back begins
	succeeded          // the job ends so
	restored           // likewise
	incomplete         // likewise
)

// round is what all phases share.
type round struct {
	rules
	job
	answers  []answer // by node
	ticks    int      // that have gone by in it
	sendings int      // that were made in it
}

// job is what a phase knows of its job.
type job struct {
	number, kind, version int
}

// answer is a node's. What it holds may be any number that it told, so this alone does not say whether it came.
type answer struct {
	came  bool
	holds int
}

const unknown = -1 // what a node holds that has not answered

// newRound is what a phase begins with.
func newRound(r rules, j job) round {
	answers := make([]answer, r.nodes)
	for i := range answers {
		answers[i].holds = unknown
	}
	return round{rules: r, job: j, answers: answers}
}

// anew is what the next phase of the job begins with.
func (r *round) anew() round { return newRound(r.rules, r.job) }

// isDue tells whether a message of this kind is of this job, and of a node that has not answered.
func (r *round) isDue(kind int, m api.Msg) bool {
	return m.Kind == kind && m.Id == r.number && m.From >= 0 && m.From < r.nodes && !r.answers[m.From].came
}

// note writes down an answer that counts.
func (r *round) note(m api.Msg) { r.answers[m.From] = answer{came: true, holds: m.Version} }

// missing are the nodes that have not answered, rising.
func (r *round) missing() []int {
	var list []int
	for node, a := range r.answers {
		if !a.came {
			list = append(list, node)
		}
	}
	return list
}

// sending is a message to all nodes that have not answered.
func (r *round) sending(m api.Msg) []api.Msg {
	r.sendings++
	m.From, m.Id = api.AddrControl, r.number
	var list []api.Msg
	for _, node := range r.missing() {
		m.To = node
		list = append(list, m)
	}
	return list
}

// report is that of a job that ends here.
func (r *round) report(outcome int) api.Report {
	holds := make([]int, len(r.answers))
	for node, a := range r.answers {
		holds[node] = a.holds
	}
	return api.Report{Job: r.number, Kind: r.kind, Version: r.version, Outcome: outcome, Holds: holds, Missing: r.missing()}
}

// pace lets a tick go by where a message is sent just so often, and then the phase is given up.
func (r *round) pace(givenUp verdict) verdict {
	r.ticks++
	switch {
	case r.ticks%r.resend != 0:
		return nothing
	case r.sendings < r.limit:
		return sendAgain
	}
	return givenUp
}

// What goes wrong is taken back, unless a phase says otherwise.

func (r *round) refused() verdict { return beginBack }

func (r *round) stopped() verdict { return beginBack }

func (r *round) revived() verdict { return beginBack }
