package shelf

import (
	"fmt"
	"slices"
	"strconv"
	"strings"
	"testing"

	"granary/api"
	"granary/disk"
	"granary/ring"
)

// Directories drawn by lot, most of them with something wrong, are held against the plain reading.

// drawCluster draws a valid one, most often small.
func drawCluster(lot *dice) api.Cluster {
	for {
		nodes, parts := 1+lot.roll(4), 1+lot.roll(6)
		c := settings("draw-"+strconv.Itoa(lot.roll(3)), 1+lot.roll(3), 1+lot.roll(3), 1+lot.roll(3), make([]api.NodeDef, nodes)...)
		for p := range parts {
			n := lot.roll(nodes)
			c.Nodes[n].Parts = append(c.Nodes[n].Parts, p)
		}
		if ring.Check(c) == api.OK {
			return c
		}
	}
}

func drawPairs(lot *dice) []api.Pair {
	var list []api.Pair
	first := lot.roll(1000)
	for i := range lot.roll(60) {
		list = append(list, api.Pair{Key: fmt.Sprint("key", first+i), Value: text(lot.roll(20))})
	}
	return list
}

// drawName draws one of the chunk files, or meta.
func drawName(b box, lot *dice) string {
	names := slices.DeleteFunc(b.names(), func(name string) bool { return name == "manifest" })
	return names[lot.roll(len(names))]
}

func turn(data string, lot *dice) string {
	if data == "" {
		return "x"
	}
	i := lot.roll(len(data))
	return data[:i] + string([]byte{data[i] ^ byte(1<<lot.roll(8))}) + data[i+1:]
}

// spoil changes something in a directory; most often the papers are turned to fit it.
func spoil(b box, lot *dice) string {
	name, other := drawName(b, lot), drawName(b, lot)
	what := ""
	switch lot.roll(9) {
	case 0:
		what, b.files[name] = "turned "+name, turn(b.files[name], lot)
	case 1:
		what, b.files[name] = "a byte more in "+name, b.files[name]+"\x00"
	case 2:
		what, b.files[name] = "less of "+name, b.files[name][:lot.roll(len(b.files[name])+1)]
	case 3:
		what, b.files[name], b.files[other] = "changed "+name+" and "+other, b.files[other], b.files[name]
	case 4:
		one, two := strings.Split(name, ".")[0], strings.Split(other, ".")[0]
		for _, end := range []string{".index", ".data"} {
			if one != "meta" && two != "meta" {
				b.files[one+end], b.files[two+end] = b.files[two+end], b.files[one+end]
			}
		}
		what = "changed the chunks " + one + " and " + two
	case 5:
		b.meta(func(m *api.Meta) {
			field := []*int{&m.Version, &m.Node, &m.Parts, &m.Replicas, &m.Width, &m.Chunks, &m.Rows}[lot.roll(7)]
			*field += lot.roll(3) - 1
		})
		what = "another meta file"
	case 6:
		what = "a pair more or less"
		chunkLot(b, lot)
	}
	if lot.roll(4) > 0 {
		b.seal()
	}
	return what
}

// chunkLot writes a chunk anew: of the pairs that belong there and that are drawn, perhaps with one that does not belong there, perhaps in another group.
func chunkLot(b box, lot *dice) {
	slots := plainSlots(b.c, b.node)
	if len(slots) == 0 {
		return
	}
	x := slots[lot.roll(len(slots))]
	list := plainIn(b.c, drawPairs(lot), x.part, x.chunk)
	if lot.roll(3) == 0 {
		list = append(list, api.Pair{Key: fmt.Sprint("more", lot.roll(50)), Value: "x"})
	}
	wrong := lot.roll(3) == 0
	b.chunk(x.name, plainChunk(list, func(key string) string {
		hash := plainLocate(b.c, key).Hash
		if wrong && key == list[0].Key {
			return turn(hash, lot)
		}
		return hash
	}))
	rows := 0
	for _, y := range slots {
		rows += pairsIn(b, y.name)
	}
	b.meta(func(m *api.Meta) { m.Rows = rows })
}

// pairsIn counts the pairs of a chunk by the lengths that stand in its data.
func pairsIn(b box, name string) int {
	data, n := b.files[name+".data"], 0
	for len(data) > 2 {
		count := int(data[0])<<8 + int(data[1])
		data = data[2:]
		for ; count > 0 && len(data) >= 6; count-- {
			size := 6 + int(data[0])<<8 + int(data[1]) + int(data[4])<<8 + int(data[5])
			data = data[min(size, len(data)):]
			n++
		}
	}
	return n
}

// litter does something to the directory on the disk.
func litter(t *testing.T, d *disk.Disk, b box, lot *dice) string {
	t.Helper()
	name := b.names()[lot.roll(len(b.files))]
	switch lot.roll(40) {
	case 0:
		done(t, d.Remove("v/"+name))
		return "away: " + name
	case 1:
		done(t, d.Remove("v/"+name))
		put(t, d, "v/"+name+"/", "")
		return "a directory: " + name
	case 2:
		put(t, d, "v/"+[]string{"journal", "0_0_9.data", "a/b", "manifest-/"}[lot.roll(4)], "")
		return "something more"
	case 3:
		rewrite(t, d, "v/manifest", turn(b.files["manifest"], lot))
		return "the manifest turned"
	}
	return ""
}

func TestAgainstAPlainReading(t *testing.T) {
	lot := dice(9)
	told := map[api.Errno]int{}
	for i := range 6000 {
		c := drawCluster(&lot)
		node, version, list := lot.roll(len(c.Nodes)), 1+lot.roll(3), drawPairs(&lot)
		b := boxOf(c, node, version, list)
		var what []string
		for range lot.roll(3) {
			what = append(what, spoil(b, &lot))
		}
		d := b.lay(t, "v")
		what = append(what, litter(t, d, b, &lot))
		if lot.roll(10) == 0 {
			version += lot.roll(3) - 1
		}
		if lot.roll(10) == 0 {
			node += lot.roll(3) - 1
		}
		want := plainOpen(d, "v", c, node, version)
		told[want]++
		s, e := Open(d, "v", c, node, version)
		if e != want || (s == nil) != (e != api.OK) {
			t.Fatalf("%d: %v: Open = %d, want %d", i, what, e, want)
		}
		if s != nil {
			readsAs(t, s, c, node, within(b))
		}
	}
	for _, e := range []api.Errno{api.OK, api.ErrNode, api.ErrVersion, api.ErrMissing, api.ErrExtra, api.ErrForm, api.ErrSum, api.ErrOther, api.ErrDamage, api.ErrContent} {
		if told[e] < 20 {
			t.Errorf("error %d was drawn %d times", e, told[e])
		}
	}
}

// within is the pairs that stand in a directory that is whole.
func within(b box) []api.Pair {
	var list []api.Pair
	for _, x := range plainSlots(b.c, b.node) {
		data := b.files[x.name+".data"]
		for len(data) > 0 {
			count := int(data[0])<<8 + int(data[1])
			data = data[2:]
			for range count {
				key, value := 6+int(data[0])<<8+int(data[1]), int(data[4])<<8+int(data[5])
				list = append(list, api.Pair{Key: data[6:key], Value: data[key : key+value]})
				data = data[key+value:]
			}
		}
	}
	return list
}
