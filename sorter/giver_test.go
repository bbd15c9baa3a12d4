package sorter

import (
	"testing"

	"granary/api"
)

// hashed is a giver of rows that lie in memory, with these hashes.
func hashed(hashes ...string) giver {
	p := &pile{}
	for i, h := range hashes {
		p.rows = append(p.rows, row(h, "", "", i))
	}
	return p
}

func gives(t *testing.T, g giver, hashes ...string) {
	t.Helper()
	for _, h := range hashes {
		got, e := g.next()
		is(t, "next", e, api.OK)
		is(t, "the row", got.Hash, h)
	}
	for range 2 {
		got, e := g.next()
		is(t, "behind the last", e, api.ErrEnd)
		is(t, "behind the last", got, api.Row{})
	}
}

func TestPile(t *testing.T) {
	gives(t, hashed())
	gives(t, hashed("a", "b"), "a", "b")
}

// A merge is a giver like those that it takes from: another merge may take from it.
func TestMergeOfMerges(t *testing.T) {
	weights := 0
	holds := func(weight int) { weights += weight }
	gives(t, newMerge(holds))
	gives(t, newMerge(holds, hashed(), hashed()))
	is(t, "nothing was held", weights, 0)
	inner := newMerge(func(int) {}, hashed("b", "d", "f"), hashed("a"), hashed())
	gives(t, newMerge(holds, inner, hashed("c", "e", "g"), newMerge(func(int) {}, hashed("h"))), "a", "b", "c", "d", "e", "f", "g", "h")
	is(t, "what was held together", weights, 17*(6*3+2+1))
}

// torn is a giver that fails behind a row.
type torn struct{ rows int }

func (g *torn) next() (api.Row, api.Errno) {
	if g.rows == 0 {
		return api.Row{}, api.ErrDown
	}
	g.rows--
	return api.Row{}, api.OK
}

func TestAGiverThatFails(t *testing.T) {
	m := newMerge(func(int) {}, hashed("a"), &torn{rows: 2})
	given := 0
	e := drain(m, func(api.Row) api.Errno {
		given++
		return api.OK
	})
	is(t, "drain", e, api.ErrDown)
	is(t, "rows", given, 2)
	e = drain(&torn{rows: 2}, func(api.Row) api.Errno { return api.ErrFull })
	is(t, "what the rows go to fails", e, api.ErrFull)
}
