package shelf

import (
	"fmt"
	"slices"
	"strings"
	"testing"

	"granary/api"
	"granary/builder"
	"granary/disk"
	"granary/paper"
)

// harvest is a dataset that has pairs in every chunk of E's node 1, in some of them several.
func harvest() []api.Pair { return numbered(40) }

// sample is the directory of that dataset.
func sample() box { return boxOf(east(), 1, 7, harvest()) }

// P9.1

func TestArgumentsInOrder(t *testing.T) {
	d := sample().lay(t, "v")
	wrong := east()
	wrong.Width = 17
	if s, e := Open(nil, "NO", wrong, 9, 0); s != nil || e != api.ErrNil {
		t.Errorf("no disk: %d", e)
	}
	refuses(t, "ring.Check", d, "NO", wrong, 9, 0, api.ErrSetting)
	refuses(t, "the node", d, "NO", east(), 9, 0, api.ErrNode)
	refuses(t, "the version", d, "NO", east(), 1, 0, api.ErrVersion)
	refuses(t, "no path", d, "NO", east(), 1, 7, api.ErrPath)
	refuses(t, "nothing there", d, "w", east(), 1, 7, api.ErrNone)
	refuses(t, "nothing on the way", d, "w/v", east(), 1, 7, api.ErrNone)
	refuses(t, "a file", d, "v/meta", east(), 1, 7, api.ErrKind)
	refuses(t, "a file on the way", d, "v/meta/x", east(), 1, 7, api.ErrKind)
	down(t, d)
	refuses(t, "down: ring.Check", d, "NO", wrong, 9, 0, api.ErrSetting)
	refuses(t, "down: the node", d, "NO", east(), 9, 0, api.ErrNode)
	refuses(t, "down: the version", d, "NO", east(), 1, 0, api.ErrVersion)
	refuses(t, "down", d, "NO", east(), 1, 7, api.ErrDown)
	refuses(t, "down", d, "v", east(), 1, 7, api.ErrDown)
	up(d)
	opens(t, d, "v", east(), 1, 7)
}

func TestEachErrorOfTheRing(t *testing.T) {
	d := sample().lay(t, "v")
	for want, change := range map[api.Errno]func(*api.Cluster){
		api.ErrName:    func(c *api.Cluster) { c.Store = "East" },
		api.ErrSetting: func(c *api.Cluster) { c.Chunks = 0 },
		api.ErrNodes:   func(c *api.Cluster) { c.Nodes = nil },
		api.ErrParts:   func(c *api.Cluster) { c.Nodes[0].Parts = []int{0} },
		api.ErrCopies:  func(c *api.Cluster) { c.Replicas = 4 },
		api.ErrBig:     func(c *api.Cluster) { *c = round(3, 64, 3, 1, 3) },
	} {
		c := east()
		change(&c)
		refuses(t, "a cluster", d, "v", c, 1, 7, want)
		refuses(t, "a cluster, and no node", d, "v", c, -1, 7, want)
	}
	for _, node := range []int{leastInt, -1, 3, 16, mostInt} {
		refuses(t, "a node", d, "v", east(), node, 7, api.ErrNode)
	}
}

func TestVersions(t *testing.T) {
	for _, x := range []struct {
		version    int
		more, less api.Errno
	}{
		{1, api.ErrOther, api.ErrVersion},
		{2, api.ErrOther, api.ErrOther},
		{999999, api.ErrVersion, api.ErrOther},
	} {
		s, d := boxOf(east(), 1, x.version, harvest()).opened(t)
		is(t, "Version", s.Version(), x.version)
		refuses(t, "one more", d, "v", east(), 1, x.version+1, x.more)
		refuses(t, "one less", d, "v", east(), 1, x.version-1, x.less)
	}
	d := sample().lay(t, "v")
	for _, version := range []int{leastInt, -1, 0, 1000000, mostInt} {
		refuses(t, "a version", d, "v", east(), 1, version, api.ErrVersion)
	}
}

// TestEachNode: clusters of all kinds, the greatest too, and nodes that hold nothing.
func TestEachNode(t *testing.T) {
	for _, c := range []api.Cluster{
		east(), single(1), single(16),
		settings("bare", 1, 2, 3, holding(), holding(0), holding()),
		round(1, 64, 1, 16, 8),
		round(16, 64, 8, 3, 1),
		round(16, 16, 16, 1, 2),
		round(3, 11, 2, 2, 16),
	} {
		for _, list := range [][]api.Pair{nil, numbered(1), numbered(120)} {
			for node := range min(len(c.Nodes), 4) {
				s, _ := boxOf(c, node, 3, list).opened(t)
				is(t, "Version", s.Version(), 3)
				readsAs(t, s, c, node, list)
			}
		}
	}
}

// TestBuilt: what the builder builds is what belongs on a shelf.
func TestBuilt(t *testing.T) {
	list := append(harvest(), pairs("oat=", "k0=other")...)
	for _, c := range []api.Cluster{east(), round(4, 9, 3, 2, 3), settings("bare", 1, 1, 1, holding(), holding(0))} {
		d := fresh(t, 1<<20)
		_, e := builder.Build(d, c, api.Job{Version: 5, Memory: 10000, FanIn: 2}, list)
		done(t, e)
		for node := range c.Nodes {
			s := opens(t, d, fmt.Sprintf("build-5/node-%d", node), c, node, 5)
			readsAs(t, s, c, node, append(list[1:41:41], list[41]))
		}
	}
}

// TestPlaces: the directory may lie anywhere, in the root too.
func TestPlaces(t *testing.T) {
	for _, dir := range []string{"", "a", "a/b", "a/b/c/d/e/f/g"} {
		d := sample().lay(t, dir)
		readsAs(t, opens(t, d, dir, east(), 1, 7), east(), 1, harvest())
		refuses(t, "of a path with a name too many", d, dir+"/", east(), 1, 7, api.ErrPath)
	}
	d := sample().lay(t, "")
	put(t, d, "x/", "")
	refuses(t, "the root with a directory", d, "", east(), 1, 7, api.ErrExtra)
	d = fresh(t, 1000)
	put(t, d, "a/b/c/d/e/f/g/h/", "")
	refuses(t, "so deep that no file fits", d, "a/b/c/d/e/f/g/h", east(), 1, 7, api.ErrMissing)
	refuses(t, "deeper", d, "a/b/c/d/e/f/g/h/i", east(), 1, 7, api.ErrPath)
}

func TestMissingAndExtra(t *testing.T) {
	b := sample()
	is(t, "files", len(b.names()), 10)
	for _, name := range b.names() {
		for _, instead := range []string{"", "/", "/inside"} {
			for _, beside := range []string{"", "journal", "other/"} {
				d := b.lay(t, "v")
				done(t, d.Remove("v/"+name))
				if instead != "" {
					put(t, d, "v/"+name+instead, "")
				}
				if beside != "" {
					put(t, d, "v/"+beside, "")
				}
				refuses(t, name+" away, there are "+instead+" and "+beside, d, "v", east(), 1, 7, api.ErrMissing)
			}
		}
	}
	for _, beside := range []string{"journal", "latest", "a/", "a/b", "meta.", "metas", "met", "manifest2", "0_1_0", "0_1_2.index", "0_0_0.data", "2_1_0.data", "0_1_0.indexx", "00_1_0.data", "zz", "-"} {
		d := b.lay(t, "v")
		put(t, d, "v/"+beside, "")
		refuses(t, "with "+beside, d, "v", east(), 1, 7, api.ErrExtra)
		put(t, d, "v/more", "")
		refuses(t, "with "+beside+" and one more", d, "v", east(), 1, 7, api.ErrExtra)
	}
	d := fresh(t, 100)
	put(t, d, "v/", "")
	refuses(t, "an empty directory", d, "v", east(), 1, 7, api.ErrMissing)
	d = sample().lay(t, "v")
	done(t, d.Rename("v/meta", "v/mete"))
	refuses(t, "as many files as belong there", d, "v", east(), 1, 7, api.ErrMissing)
	put(t, d, "beside", "")
	done(t, d.Rename("v/mete", "v/meta"))
	opens(t, d, "v", east(), 1, 7)
}

// TestManifestSpoilt: what ParseManifest says of the text is told, whatever became of it.
func TestManifestSpoilt(t *testing.T) {
	b := sample()
	good := b.files["manifest"]
	texts := []string{"", "\n", good + "\n", good + good, good + "x", good[1:], b.files["meta"], strings.ToUpper(good)}
	for i := range good {
		texts = append(texts, good[:i]+string(rune(good[i]^1))+good[i+1:], good[:i]+good[i+1:], good[:i]+"0"+good[i:])
	}
	for i := 0; i < len(good); i += 7 {
		texts = append(texts, good[:i])
	}
	d := b.lay(t, "v")
	for _, text := range texts {
		if text == good {
			continue
		}
		_, want := paper.ParseManifest(text)
		if want == api.OK {
			t.Fatalf("%q is read", text)
		}
		rewrite(t, d, "v/manifest", text)
		refuses(t, fmt.Sprintf("%.40q", text), d, "v", east(), 1, 7, want)
	}
	b.seal(func(m *api.Manifest) { m.Version = 1000000 })
	b.refused(t, "a field out of its range", api.ErrField)
	b.files["manifest"] = closed("granary manifest 1\nstore east\nversion 7\nnode 1\nfiles 0\ntotal 1\nwhole 00000000\n")
	b.refused(t, "totals that do not fit", api.ErrTotal)
	b.files["manifest"] = strings.Replace(good, "version 7", "version 8", 1)
	b.refused(t, "a sum that does not fit", api.ErrSum)
}

func TestManifestOther(t *testing.T) {
	for what, change := range map[string]func(*api.Manifest){
		"another store":            func(m *api.Manifest) { m.Store = "west" },
		"a longer store":           func(m *api.Manifest) { m.Store = "east1" },
		"another version":          func(m *api.Manifest) { m.Version = 8 },
		"another node":             func(m *api.Manifest) { m.Node = 0 },
		"no rows":                  func(m *api.Manifest) { m.Files = nil },
		"the first row away":       func(m *api.Manifest) { m.Files = m.Files[1:] },
		"the last row away (meta)": func(m *api.Manifest) { m.Files = m.Files[:8] },
		"one row more":             func(m *api.Manifest) { m.Files = append(m.Files, rowOf("zz", "")) },
		"one row ahead":            func(m *api.Manifest) { m.Files = slices.Insert(m.Files, 0, rowOf("-", "")) },
		"a row of the manifest":    func(m *api.Manifest) { m.Files = slices.Insert(m.Files, 8, rowOf("manifest", "")) },
		"one in the place of meta": func(m *api.Manifest) { m.Files[8] = rowOf("manifest", "") },
		"a row of another file":    func(m *api.Manifest) { m.Files[7].Name = "1_0_2.index" },
	} {
		b := sample()
		b.seal(change)
		if _, e := paper.ParseManifest(b.files["manifest"]); e != api.OK {
			t.Fatalf("%s: %d", what, e)
		}
		b.refused(t, what, api.ErrOther)
		b.files["0_1_0.data"] += "x"
		b.refused(t, what+", and damage", api.ErrOther)
	}
	for i := range 9 {
		b := sample()
		b.seal(func(m *api.Manifest) { m.Files = slices.Delete(m.Files, i, i+1) })
		b.refused(t, "one row away", api.ErrOther)
	}
}

// TestAnotherStoreOfTheSameNodes: the papers fit each other, but not what is asked for.
func TestAnotherStoreOfTheSameNodes(t *testing.T) {
	c := east()
	c.Store = "west"
	d := sample().lay(t, "v")
	refuses(t, "another store", d, "v", c, 1, 7, api.ErrOther)
	// Nodes that hold nothing have the same names.
	c = settings("bare", 1, 2, 3, holding(), holding(0), holding())
	b := boxOf(c, 0, 7, nil)
	refuses(t, "another node", b.lay(t, "v"), "v", c, 2, 7, api.ErrOther)
	b.seal(func(m *api.Manifest) { m.Node = 2 })
	refuses(t, "another node by the meta file alone", b.lay(t, "v"), "v", c, 2, 7, api.ErrOther)
}

// TestDamage: each byte of each file turned, one more and one less.
func TestDamage(t *testing.T) {
	b := sample()
	d := b.lay(t, "v")
	for _, name := range b.names() {
		good := b.files[name]
		if name == "manifest" {
			continue
		}
		texts := []string{good + "x", good + "\x00", "x" + good, "\n" + good}
		for i := range good {
			texts = append(texts, good[:i]+string([]byte{good[i] ^ byte(1<<(i%8))})+good[i+1:])
		}
		if good != "" {
			texts = append(texts, "", good[1:], good[:len(good)-1], good+good)
		}
		for _, text := range texts {
			rewrite(t, d, "v/"+name, text)
			refuses(t, fmt.Sprintf("%s: %.40q", name, text), d, "v", east(), 1, 7, api.ErrDamage)
		}
		rewrite(t, d, "v/"+name, good)
	}
	opens(t, d, "v", east(), 1, 7)
}

// TestDamageOfOneSum: size, CRC and MD5 count each alone, of each file.
func TestDamageOfOneSum(t *testing.T) {
	for i := range 9 {
		for what, change := range map[string]func(*api.FileRow){
			"size":     func(row *api.FileRow) { row.Size++ },
			"CRC":      func(row *api.FileRow) { row.Crc ^= 1 << 31 },
			"MD5":      func(row *api.FileRow) { row.Md5 = row.Md5[:15] + string([]byte{row.Md5[15] ^ 1}) },
			"MD5 also": func(row *api.FileRow) { row.Md5 = string([]byte{row.Md5[0] ^ 128}) + row.Md5[1:] },
		} {
			b := sample()
			b.seal(func(m *api.Manifest) { change(&m.Files[i]) })
			b.refused(t, fmt.Sprint(what, " of row ", i), api.ErrDamage)
		}
	}
}

func TestMetaSpoilt(t *testing.T) {
	good := sample().files["meta"]
	texts := []string{"", "meta", good + "\n", good[:len(good)-1], strings.Replace(good, "rows", "Rows", 1)}
	for i := range good {
		texts = append(texts, good[:i]+string(rune(good[i]^1))+good[i+1:])
	}
	for _, text := range texts {
		b := sample()
		b.files["meta"] = text
		b.refused(t, "a manifest that does not fit", api.ErrDamage)
		b.seal()
		_, want := paper.ParseMeta(text)
		if want == api.OK {
			t.Fatalf("%q is read", text)
		}
		b.refused(t, fmt.Sprintf("%q", text), want)
	}
	for what, change := range map[string]func(*api.Meta){
		"no version": func(m *api.Meta) { m.Version = 0 },
		"no width":   func(m *api.Meta) { m.Width = 17 },
		"no store":   func(m *api.Meta) { m.Store = "East" },
		"no rows":    func(m *api.Meta) { m.Rows = 1<<53 + 1 },
	} {
		b := sample()
		b.meta(change)
		b.seal()
		b.refused(t, what, api.ErrField)
	}
}

func TestMetaOther(t *testing.T) {
	for what, change := range map[string]func(*api.Meta){
		"store":         func(m *api.Meta) { m.Store = "west" },
		"version":       func(m *api.Meta) { m.Version++ },
		"node":          func(m *api.Meta) { m.Node++ },
		"node 0":        func(m *api.Meta) { m.Node = 0 },
		"parts":         func(m *api.Meta) { m.Parts++ },
		"one part less": func(m *api.Meta) { m.Parts-- },
		"replicas":      func(m *api.Meta) { m.Replicas++ },
		"replicas 1":    func(m *api.Meta) { m.Replicas = 1 },
		"width":         func(m *api.Meta) { m.Width++ },
		"chunks":        func(m *api.Meta) { m.Chunks++ },
		"chunks 1":      func(m *api.Meta) { m.Chunks = 1 },
		"two":           func(m *api.Meta) { m.Chunks, m.Rows = 1, m.Rows+1 },
	} {
		b := sample()
		b.meta(change)
		b.refused(t, what+", and the manifest does not fit", api.ErrDamage)
		b.seal()
		if _, e := paper.ParseMeta(b.files["meta"]); e != api.OK {
			t.Fatalf("%s: %d", what, e)
		}
		b.refused(t, what, api.ErrOther)
	}
}

func TestRows(t *testing.T) {
	rows := len(plainAll(east(), 1, harvest()))
	for _, n := range []int{0, rows - 1, rows, rows + 1, 1 << 53} {
		b := sample()
		b.meta(func(m *api.Meta) { m.Rows = n })
		b.seal()
		if n == rows {
			s, _ := b.opened(t)
			is(t, "Count", s.Count(), rows)
			continue
		}
		b.refused(t, fmt.Sprint("Rows ", n), api.ErrContent)
	}
	b := boxOf(east(), 1, 7, nil)
	b.meta(func(m *api.Meta) { m.Rows = 1 })
	b.seal()
	b.refused(t, "Rows 1 of no pairs", api.ErrContent)
}

// TestNoChunk: files that no longer decode, with papers that fit them.
func TestNoChunk(t *testing.T) {
	for _, x := range plainSlots(east(), 1) {
		index, data := x.name+".index", x.name+".data"
		for what, change := range map[string]func(map[string]string){
			"the index away":        func(f map[string]string) { f[index] = "" },
			"the data away":         func(f map[string]string) { f[data] = "" },
			"a byte more":           func(f map[string]string) { f[data] += "x" },
			"a byte less":           func(f map[string]string) { f[data] = f[data][:len(f[data])-1] },
			"a byte of the index":   func(f map[string]string) { f[index] += "x" },
			"a byte ahead":          func(f map[string]string) { f[index] = "x" + f[index] },
			"an entry more":         func(f map[string]string) { f[index] += "\xff\x00\x00\x00\x00" },
			"an entry less":         func(f map[string]string) { f[index] = f[index][5:] },
			"an offset":             func(f map[string]string) { f[index] = f[index][:4] + "\x01" + f[index][5:] },
			"entries turned round":  func(f map[string]string) { f[index] = f[index][5:10] + f[index][:5] + f[index][10:] },
			"the files changed":     func(f map[string]string) { f[index], f[data] = f[data], f[index] },
			"a key's length":        func(f map[string]string) { f[data] = f[data][:3] + "\x00" + f[data][4:] },
			"the number of pairs":   func(f map[string]string) { f[data] = "\x00\x02" + f[data][2:] },
			"more than a chunk has": func(f map[string]string) { f[data] += text(1 << 16) },
		} {
			b := sample()
			change(b.files)
			b.seal()
			b.refused(t, what+" of "+x.name, api.ErrContent)
		}
	}
}

// TestContent: chunks that decode, but hold what does not belong there.
func TestContent(t *testing.T) {
	c := east()
	slots := plainSlots(c, 1)
	for i, from := range slots {
		in := plainIn(c, harvest(), from.part, from.chunk)
		if len(in) < 2 {
			t.Fatalf("%d pairs in %s", len(in), from.name)
		}
		for _, to := range slots {
			if to == from {
				continue
			}
			there := plainIn(c, harvest(), to.part, to.chunk)
			b := sample()
			b.chunk(from.name, plainChunk(in[1:], hashIn(c)))
			b.chunk(to.name, plainChunk(append(there, in[0]), hashIn(c)))
			b.seal()
			b.refused(t, "a pair of "+from.name+" in "+to.name, api.ErrContent)
			b = sample()
			b.chunk(to.name, plainChunk(in, hashIn(c)))
			b.chunk(from.name, plainChunk(there, hashIn(c)))
			b.seal()
			b.refused(t, from.name+" and "+to.name+" changed", api.ErrContent)
		}
		for j, p := range in {
			b := sample()
			b.chunk(from.name, plainChunk(in, func(key string) string {
				if key == p.Key { // the hash of another one, or none at all
					return []string{plainLocate(c, in[(j+1)%len(in)].Key).Hash, "\x00", "\xff"}[(i+j)%3]
				}
				return plainLocate(c, key).Hash
			}))
			b.seal()
			want := api.ErrContent
			if b.files[from.name+".index"] == sample().files[from.name+".index"] {
				want = api.OK // the other one has the same hash
			}
			_, e := Open(b.lay(t, "v"), "v", c, 1, 7)
			is(t, p.Key+" in another group of "+from.name, e, want)
		}
	}
}

// TestForeignKeys: keys of partitions that the node does not hold.
func TestForeignKeys(t *testing.T) {
	c := east()
	for _, p := range harvest() {
		at := plainLocate(c, p.Key)
		if at.Part < 2 {
			continue
		}
		b := sample()
		name := fmt.Sprintf("0_1_%d", at.Chunk)
		b.chunk(name, plainChunk(append(plainIn(c, harvest(), 0, at.Chunk), p), hashIn(c)))
		b.meta(func(m *api.Meta) { m.Rows++ })
		b.seal()
		b.refused(t, p.Key, api.ErrContent)
	}
}

// TestWider: two keys that a width of 1 puts into one group are two groups at a width of 2.
func TestWider(t *testing.T) {
	c := single(2)
	for _, list := range [][]api.Pair{numbered(30), numbered(300)} {
		b := boxOf(c, 0, 1, list)
		b.chunk("0_0_0", plainChunk(list, func(key string) string { return "\x00" + plainLocate(c, key).Hash[1:] }))
		b.seal()
		b.refused(t, "half a hash", api.ErrContent)
	}
}

// fault is one that Open tells, with the errors in their order.
type fault struct {
	what  string
	wrong api.Errno
	lay   func(box)
	on    func(*testing.T, *disk.Disk)
}

// faults are in Open's order. What comes late there is laid early: whoever turns the papers to fit comes ahead of whoever spoils them.
func faults() []fault {
	return []fault{
		{"a file away", api.ErrMissing, nil, func(t *testing.T, d *disk.Disk) { done(t, d.Remove("v/1_0_0.data")) }},
		{"a file too many", api.ErrExtra, nil, func(t *testing.T, d *disk.Disk) { put(t, d, "v/journal", "") }},
		{"no manifest", api.ErrForm, func(b box) { b.files["manifest"] = "x" + b.files["manifest"] }, nil},
		{"its sum", api.ErrSum, func(b box) { b.files["manifest"] = strings.Replace(b.files["manifest"], "\nnode 1", "\nnode 2", 1) }, nil},
		{"a field", api.ErrField, func(b box) { b.seal(func(m *api.Manifest) { m.Node = 16 }) }, nil},
		{"its total", api.ErrTotal, func(b box) {
			b.files["manifest"] = closed("granary manifest 1\nstore west\nversion 7\nnode 1\nfiles 0\ntotal 1\nwhole 00000000\n")
		}, nil},
		{"another store", api.ErrOther, func(b box) { b.seal(func(m *api.Manifest) { m.Store = "west" }) }, nil},
		{"damage", api.ErrDamage, func(b box) { b.files["1_0_1.data"] += "x" }, nil},
		{"no meta file", api.ErrForm, func(b box) { b.files["meta"] = "x" + b.files["meta"]; b.seal() }, nil},
		{"its sum", api.ErrSum, func(b box) {
			b.files["meta"] = strings.Replace(b.files["meta"], "\nversion 7", "\nversion 9", 1)
			b.seal()
		}, nil},
		{"a field", api.ErrField, func(b box) { b.meta(func(m *api.Meta) { m.Node = 16 }); b.seal() }, nil},
		{"another width", api.ErrOther, func(b box) { b.meta(func(m *api.Meta) { m.Width = 2 }); b.seal() }, nil},
		{"no chunk", api.ErrContent, func(b box) { b.files["0_1_0.index"] += "x"; b.seal() }, nil},
		{"rows", api.ErrContent, func(b box) { b.meta(func(m *api.Meta) { m.Rows = 1 }); b.seal() }, nil},
	}
}

// laid is the directory with some faults, the last one first.
func laid(t *testing.T, all ...fault) *disk.Disk {
	t.Helper()
	b := sample()
	slices.Reverse(all)
	for _, x := range all {
		if x.lay != nil {
			x.lay(b)
		}
	}
	d := b.lay(t, "v")
	for _, x := range all {
		if x.on != nil {
			x.on(t, d)
		}
	}
	return d
}

func TestTwoFaults(t *testing.T) {
	all := faults()
	for i, first := range all {
		d := laid(t, first)
		refuses(t, first.what, d, "v", east(), 1, 7, first.wrong)
		refuses(t, first.what+", and no such directory", d, "w", east(), 1, 7, api.ErrNone)
		refuses(t, first.what+", and no version", d, "v", east(), 1, 0, api.ErrVersion)
		refuses(t, first.what+", and no node", d, "v", east(), 3, 7, api.ErrNode)
		for _, second := range all[i+1:] {
			refuses(t, first.what+" and "+second.what, laid(t, first, second), "v", east(), 1, 7, first.wrong)
		}
		down(t, d)
		refuses(t, first.what+", and the disk is down", d, "v", east(), 1, 7, api.ErrDown)
	}
	refuses(t, "all faults", laid(t, all...), "v", east(), 1, 7, api.ErrMissing)
}
