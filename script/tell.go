package script

import (
	"math"
	"slices"

	"granary/api"
)

// telling is a row of the table of events: its word, and the function that writes what stands behind it.
type telling struct {
	kind  int
	word  string
	write func(v api.Event, w *writer)
}

func tellings() []telling {
	return []telling{
		{api.EvRefused, "refused", func(v api.Event, w *writer) { w.numbers(int(v.Code)) }},
		{api.EvBuilt, "built", tellBuilt},
		{api.EvSent, "sent", tellSent},
		{api.EvLost, "lost", tellNode},
		{api.EvDown, "down", tellNode},
		{api.EvUp, "up", func(v api.Event, w *writer) { w.numbers(v.Node, int(v.Code), v.Version) }},
		{api.EvReport, "report", tellReport},
		{api.EvGot, "got", tellGot},
		{api.EvAudited, "audited", tellAudited},
		{api.EvExported, "exported", tellExported},
	}
}

// Tell writes what came of a step, a line an event.
func Tell(list []api.Event) string {
	table := tellings()
	w := writer{room: math.MaxInt}
	for _, v := range list {
		row := telling{word: "event", write: tellKind}
		if at := slices.IndexFunc(table, func(x telling) bool { return x.kind == v.Kind }); at >= 0 {
			row = table[at]
		}
		w.put(row.word)
		row.write(v, &w)
		w.put(newline)
	}
	return w.text.String()
}

func tellKind(v api.Event, w *writer) { w.numbers(v.Kind) }

func tellNode(v api.Event, w *writer) { w.numbers(v.Node) }

func tellBuilt(v api.Event, w *writer) {
	w.numbers(v.Version, int(v.Code), v.Built.Pairs, v.Built.Kept, v.Built.Files, v.Built.Bytes)
}

func tellSent(v api.Event, w *writer) {
	m := v.M
	w.numbers(v.Node, m.Kind, m.From, m.To, m.Id, m.Epoch, m.Seq, m.Version, m.Prev, int(m.Code))
	w.key(m.Key)
	w.key(m.Value)
}

func tellReport(v api.Event, w *writer) {
	r := v.Report
	w.numbers(r.Job, r.Kind, r.Version, r.Outcome)
	w.list(r.Holds)
	w.list(r.Missing)
}

func tellGot(v api.Event, w *writer) {
	o := v.Outcome
	w.numbers(o.Ticket, int(o.Code), o.Node, o.Version)
	w.key(o.Key)
	w.key(o.Value)
}

func tellAudited(v api.Event, w *writer) {
	a := v.Audited
	w.numbers(a.Job, a.Version, a.Outcome)
	w.list(a.Differ)
	w.list(a.Missing)
}

func tellExported(v api.Event, w *writer) {
	x := v.Exported
	w.numbers(x.Job, x.Version)
	w.list(x.Missing)
	w.pairs(x.Pairs)
}
