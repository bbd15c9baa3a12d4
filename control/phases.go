package control

import "granary/api"

// The seqs of a job's orders: a node that has taken the job back does not swap any more.
const (
	swapSeq = 1
	backSeq = 2
)

// first is the phase that a job begins with.
func first(r round) phase {
	switch r.kind {
	case api.JobSwap:
		return &fetchPhase{r}
	case api.JobBack:
		return &swapPhase{r}
	}
	return &lookPhase{r}
}

// fetchPhase lets all nodes fetch the version: none of them swaps till all have it.
type fetchPhase struct {
	round
}

func (p *fetchPhase) message() api.Msg {
	return api.Msg{Kind: api.MsgFetch, Epoch: p.number, Version: p.version}
}

func (p *fetchPhase) counts(m api.Msg) bool {
	return p.isDue(api.MsgFetched, m) && m.Epoch == p.number && m.Version == p.version
}

func (p *fetchPhase) complete() verdict { return beginSwap }

// tick has a pace of its own: a fetch takes its time, so it is sent as often as there is patience.
func (p *fetchPhase) tick() verdict {
	p.ticks++
	switch {
	case p.ticks >= p.patience:
		return beginBack
	case p.ticks%p.resend == 0:
		return sendAgain
	}
	return nothing
}

// swapPhase lets all nodes swap to the version.
type swapPhase struct {
	round
}

func (p *swapPhase) message() api.Msg {
	return api.Msg{Kind: api.MsgSwap, Epoch: p.number, Seq: swapSeq, Version: p.version}
}

// counts asks for the version just of a node that says that it swapped: one that refuses tells what it has.
func (p *swapPhase) counts(m api.Msg) bool {
	return p.isDue(api.MsgSwapped, m) && m.Epoch == p.number && m.Seq == swapSeq && (m.Code != api.OK || m.Version == p.version)
}

func (p *swapPhase) complete() verdict { return succeeded }

func (p *swapPhase) tick() verdict { return p.pace(beginBack) }

// backPhase lets all nodes take back what the job may have done to them. There is nothing behind it: what fails here is only tried again.
type backPhase struct {
	round
}

func (p *backPhase) message() api.Msg {
	return api.Msg{Kind: api.MsgBack, Epoch: p.number, Seq: backSeq}
}

func (p *backPhase) counts(m api.Msg) bool {
	return p.isDue(api.MsgBacked, m) && m.Epoch == p.number && m.Seq == backSeq
}

func (p *backPhase) refused() verdict { return nothing }

func (p *backPhase) complete() verdict { return restored }

func (p *backPhase) tick() verdict { return p.pace(incomplete) }

func (p *backPhase) stopped() verdict { return nothing }

// lookPhase asks all nodes what they hold. It changes nothing, so there is nothing to be taken back.
type lookPhase struct {
	round
}

func (p *lookPhase) message() api.Msg { return api.Msg{Kind: api.MsgAsk} }

func (p *lookPhase) counts(m api.Msg) bool { return p.isDue(api.MsgTold, m) }

func (p *lookPhase) refused() verdict { return nothing }

func (p *lookPhase) complete() verdict { return succeeded }

func (p *lookPhase) tick() verdict { return p.pace(incomplete) }

func (p *lookPhase) stopped() verdict { return incomplete }

// revived has forgotten who answered.
func (p *lookPhase) revived() verdict {
	p.round = p.anew()
	return incomplete
}
