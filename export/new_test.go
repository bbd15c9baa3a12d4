package export

import (
	"fmt"
	"slices"
	"testing"

	"granary/api"
	"granary/ring"
)

// P21.1, and in which order the owners are asked.

// wrongClusters are some that are not valid, by the error of each.
func wrongClusters() map[api.Errno]api.Cluster {
	list := map[api.Errno]api.Cluster{api.ErrNodes: cluster(1, 2), api.ErrName: {}}
	for e, change := range map[api.Errno]func(c *api.Cluster){
		api.ErrSetting: func(c *api.Cluster) { c.Width = 0 },
		api.ErrParts:   func(c *api.Cluster) { c.Nodes[1].Parts = []int{2} },
		api.ErrCopies:  func(c *api.Cluster) { c.Replicas = 4 },
		api.ErrBig: func(c *api.Cluster) {
			c.Chunks, c.Nodes[0].Parts, c.Nodes[1].Parts, c.Nodes[2].Parts = 16, upto(17), nil, []int{17}
		},
	} {
		c := east()
		change(&c)
		list[e] = c
	}
	return list
}

func newIs(t *testing.T, what string, c api.Cluster, want api.Errno) {
	t.Helper()
	is(t, what+": the cluster", ring.Check(c), want)
	x, e := New(c)
	is(t, what+": New", e, want)
	is(t, what+": an exporter", x != nil, want == api.OK)
}

func TestNewOfWrongClusters(t *testing.T) {
	for e, c := range wrongClusters() {
		newIs(t, fmt.Sprint("the error ", e), c, e)
	}
	three := east()
	three.Store, three.GetWait, three.Nodes[2].Zone = "East", 0, 8
	newIs(t, "three faults", three, api.ErrName)
	three.Store = "east"
	newIs(t, "two faults", three, api.ErrSetting)
	three.GetWait = 1
	newIs(t, "one fault", three, api.ErrNodes)
	three.Nodes[2].Zone = 7
	newIs(t, "none", three, api.OK)
}

// The settings that the exporter goes by, at their ends and past them.
func TestNewAtTheSettingsEnds(t *testing.T) {
	for _, x := range []struct {
		getWait, home, replicas int
		want                    api.Errno
	}{
		{1, 0, 1, api.OK}, {1024, 7, 3, api.OK},
		{0, 0, 1, api.ErrSetting}, {-1, 0, 1, api.ErrSetting}, {1025, 0, 1, api.ErrSetting}, {mostInt, 0, 1, api.ErrSetting}, {leastInt, 0, 1, api.ErrSetting},
		{1, -1, 1, api.ErrSetting}, {1, 8, 1, api.ErrSetting}, {1, mostInt, 1, api.ErrSetting},
		{1, 0, 0, api.ErrSetting}, {1, 0, -1, api.ErrSetting}, {1, 0, 17, api.ErrSetting}, {1, 0, 4, api.ErrCopies}, {1, 0, 16, api.ErrCopies},
	} {
		c := east()
		c.GetWait, c.Home, c.Replicas = x.getWait, x.home, x.replicas
		newIs(t, "a setting", c, x.want)
	}
}

func TestNewHasNoExport(t *testing.T) {
	for _, c := range []api.Cluster{east(), round(1, 1, 1), round(16, 16, 2), cluster(1, 1, nil, upto(64))} {
		x := made(t, c)
		is(t, "Busy", x.Busy(), false)
		noReport(t, x, api.ErrIdle)
		for _, r := range []run{{0, 0}, {0, 7}, {1, 0}, {1, 7}} {
			for node := range c.Nodes {
				for k := range 2 {
					stays(t, x, func() {
						takeIs(t, x, r.give(node, 0, k, abc))
						takeIs(t, x, r.end(node, 0, k))
						takeIs(t, x, r.no(node, 0, k, api.ErrAbsent))
					})
				}
			}
		}
		stays(t, x, func() { takeIs(t, x, api.Msg{}) })
		wait(t, x, 10)
		is(t, "Busy", x.Busy(), false)
		noReport(t, x, api.ErrIdle)
	}
}

// An exporter that New did not make is answered as one that is not there.
func TestNoExporter(t *testing.T) {
	for what, x := range map[string]*Export{"nil": nil, "not made": new(Export)} {
		for range 2 {
			is(t, what+": Busy", x.Busy(), false)
			noReport(t, x, api.ErrNil)
			for _, version := range []int{leastInt, -1, 0, 1, 7, 999999, 1000000, mostInt} {
				beginFails(t, x, version, api.ErrNil)
			}
			for _, m := range []api.Msg{{}, one.give(0, 0, 0, abc), one.end(0, 0, 0), run{}.end(0, 0, 0), one.no(0, 0, 0, api.ErrAbsent), {Kind: api.MsgPong}} {
				list, e := x.Take(m)
				notSent(t, what+": Take", list, e, api.ErrNil)
			}
			list, e := x.Tick()
			notSent(t, what+": Tick", list, e, api.ErrNil)
		}
	}
}

// Two exporters in turns: what one does moves the other in nothing.
func TestTwoExporters(t *testing.T) {
	a, b := begun(t), made(t, east())
	other := run{1, 9}
	stays(t, a, func() {
		begins(t, b, other, 0)
		takeIs(t, b, other.give(0, 0, 0, at(0, 0)), other.ask(0, 0, 1))
		tickIs(t, b)
		tickIs(t, b, other.ask(1, 0, 1))
	})
	takeIs(t, a, one.give(0, 0, 0, abc), one.ask(0, 0, 1))
	stays(t, b, func() {
		takeIs(t, a, one.end(0, 0, 1), one.ask(1, 1, 0))
		idles(t, a)
	})
	reportIs(t, a, one, []api.Pair{abc}, 1, 2, 3)
	is(t, "the other's Busy", b.Busy(), true)
	noReport(t, b, api.ErrIdle)
	begins(t, a, run{2, 3}, 0)
	takeIs(t, b, other.end(1, 0, 1), other.ask(1, 1, 0))
	idles(t, b)
	reportIs(t, b, other, crop(0, 1), 1, 2, 3)
	toldIs(t, a, one, []api.Pair{abc}, 1, 2, 3)
	is(t, "Busy", a.Busy(), true)
	begins(t, b, run{2, 5}, 0)
}

// asksInTurn holds that, of each partition, just these owners are asked, one behind the other, whether an owner is left for its answer or for its silence.
func asksInTurn(t *testing.T, c api.Cluster, rows [][]int) {
	t.Helper()
	for _, silent := range []bool{false, true} {
		x := made(t, c)
		list, e := x.Begin(7)
		for part, row := range rows {
			for _, node := range row {
				sent(t, "the question", list, e, []api.Msg{one.ask(node, part, 0)})
				if !silent {
					list, e = x.Take(one.no(node, part, 0, api.ErrAbsent))
					continue
				}
				wait(t, x, c.GetWait-1)
				list, e = x.Tick()
			}
		}
		sent(t, "behind the last one", list, e, nil)
		reportIs(t, x, one, nil, upto(len(rows))...)
	}
}

// homeFirst is the plain reading of the order.
func homeFirst(c api.Cluster, owners []int) []int {
	row := slices.DeleteFunc(slices.Clone(owners), func(node int) bool { return c.Nodes[node].Zone != c.Home })
	for _, node := range owners {
		if !slices.Contains(row, node) {
			row = append(row, node)
		}
	}
	return row
}

func TestRowsOfE(t *testing.T) {
	asksInTurn(t, east(), eastRows())
	c := east()
	c.Home = 0 // all but node 2 are there
	asksInTurn(t, c, [][]int{{0, 1}, {1, 0}, {0, 2}, {0, 2}})
	c.Home = 5 // nobody is
	asksInTurn(t, c, [][]int{{0, 1}, {1, 0}, {0, 2}, {2, 0}})
}

// Owners at home: none, some and all of them, in every pattern of four nodes, for each partition and each number of replicas.
func TestHome(t *testing.T) {
	for pattern := range 16 {
		for replicas := 1; replicas <= 4; replicas++ {
			for _, home := range []int{0, 3, 7} {
				c := round(4, replicas, 2)
				c.Home = home
				for i := range c.Nodes {
					c.Nodes[i].Zone = (home + 1 + i%2) % 8
					if pattern>>i&1 == 1 {
						c.Nodes[i].Zone = home
					}
				}
				var rows [][]int
				for part := range 4 {
					rows = append(rows, homeFirst(c, from(part, replicas, 4)))
				}
				asksInTurn(t, c, rows)
			}
		}
	}
}

// Home's zone among the owners: the first, the last, several, all and none, written out.
func TestHomeWrittenOut(t *testing.T) {
	for _, x := range []struct {
		zones []int
		want  [][]int
	}{
		{[]int{5, 0, 0}, [][]int{{0, 1, 2}, {0, 1, 2}, {0, 2, 1}}},
		{[]int{0, 0, 5}, [][]int{{2, 0, 1}, {2, 1, 0}, {2, 0, 1}}},
		{[]int{5, 0, 5}, [][]int{{0, 2, 1}, {2, 0, 1}, {2, 0, 1}}},
		{[]int{5, 5, 5}, [][]int{{0, 1, 2}, {1, 2, 0}, {2, 0, 1}}},
		{[]int{4, 6, 0}, [][]int{{0, 1, 2}, {1, 2, 0}, {2, 0, 1}}},
	} {
		asksInTurn(t, zoned(round(3, 3, 1), 5, x.zones...), x.want)
	}
}

func TestHomeOfSixteen(t *testing.T) {
	c := zoned(round(16, 16, 3), 3, 3, 0, 1, 3, 2, 3, 4, 5, 6, 7, 3, 0, 0, 1, 1, 3)
	var rows [][]int
	for part := range 16 {
		rows = append(rows, homeFirst(c, from(part, 16, 16)))
	}
	same(t, "the row of 0", rows[0], []int{0, 3, 5, 10, 15, 1, 2, 4, 6, 7, 8, 9, 11, 12, 13, 14})
	same(t, "the row of 4", rows[4], []int{5, 10, 15, 0, 3, 4, 6, 7, 8, 9, 11, 12, 13, 14, 1, 2})
	asksInTurn(t, c, rows)
}

// A node without partitions is at home: it owns nothing, and is not asked.
func TestHomeWithoutPartitions(t *testing.T) {
	c := cluster(2, 2, nil, []int{0, 2}, []int{1}, nil, []int{3}, nil)
	asksInTurn(t, zoned(c, 1, 1, 0, 0, 1, 0, 1), [][]int{{1, 2}, {2, 1}, {1, 4}, {4, 1}})
}

// The most partitions, sixteen nodes with four of them each, and one node with all of them.
func TestTheMostPartitions(t *testing.T) {
	var parts [][]int
	for i := range 16 {
		parts = append(parts, []int{i, 16 + i, 32 + i, 48 + i})
	}
	c := cluster(8, 1, parts...)
	c.Chunks = 1
	var rows [][]int
	for part := range 64 {
		rows = append(rows, from(part%16, 8, 16))
	}
	asksInTurn(t, c, rows)
	asksInTurn(t, cluster(1, 1, nil, upto(64)), slices.Repeat([][]int{{1}}, 64))
}
