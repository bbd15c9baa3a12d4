package shelf

import (
	"fmt"
	"testing"

	"granary/api"
	"granary/builder"
	"granary/disk"
	"granary/paper"
	"granary/ring"
)

// The chapter's ten examples, and that of README.md.

// one is the examples' directory: node 1 of E, version 7, the one pair abc, one.
func one() box { return boxOf(east(), 1, 7, pairs("abc=one")) }

// keyIn is a key whose partition is among the two from first on, and which is not abc.
func keyIn(t *testing.T, first int) string {
	t.Helper()
	for i := range 1000 {
		key := fmt.Sprint("x", i)
		if at, e := ring.Locate(east(), key); e == api.OK && at.Part/2 == first/2 {
			return key
		}
	}
	t.Fatal("no such key")
	return ""
}

func TestExample0(t *testing.T) {
	b := one()
	same(t, "the names", b.names(), []string{"0_1_0.data", "0_1_0.index", "0_1_1.data", "0_1_1.index", "1_0_0.data", "1_0_0.index", "1_0_1.data", "1_0_1.index", "manifest", "meta"})
	is(t, "the index", b.files["0_1_0.index"], "r\x00\x00\x00\x00")
	is(t, "the data", b.files["0_1_0.data"], "\x00\x01\x00\x03\x00\x00\x00\x03abcone")
	is(t, "another chunk", b.files["1_0_1.data"], "")
	m, e := paper.ParseMeta(b.files["meta"])
	is(t, "the meta file", e, api.OK)
	is(t, "Rows", m.Rows, 1)
}

func TestExample1(t *testing.T) {
	s, _ := one().opened(t)
	is(t, "Version", s.Version(), 7)
	is(t, "Count", s.Count(), 1)
	getIs(t, s, "abc", "one", true, api.OK)
	scanIs(t, s, 0, pairs("abc=one"), api.OK)
	scanIs(t, s, 1, nil, api.OK)
	allIs(t, s, pairs("abc=one"))
}

func TestExample2(t *testing.T) {
	s, d := one().opened(t)
	if n := reads(d, func() { s.Get("abc") }); n > 3 {
		t.Errorf("%d Reads", n)
	}
	getIs(t, s, "", "", false, api.ErrKey)
	scanIs(t, s, 4, nil, api.ErrPart)
	scanIs(t, s, 2, nil, api.ErrForeign)
	getIs(t, s, keyIn(t, 2), "", false, api.ErrForeign)
	getIs(t, s, keyIn(t, 0), "", false, api.OK)
}

func TestExample3(t *testing.T) {
	d := one().lay(t, "v")
	refuses(t, "w", d, "w", east(), 1, 7, api.ErrNone)
	refuses(t, "v/meta", d, "v/meta", east(), 1, 7, api.ErrKind)
	refuses(t, "node 3, version 0", d, "v", east(), 3, 0, api.ErrNode)
	refuses(t, "version 0", d, "v", east(), 1, 0, api.ErrVersion)
	s, e := Open(nil, "v", east(), 1, 7)
	is(t, "no disk", e, api.ErrNil)
	is(t, "no disk", s, nil)
}

func TestExample4(t *testing.T) {
	d := one().lay(t, "v")
	refuses(t, "version 8", d, "v", east(), 1, 8, api.ErrOther)
	west := east()
	west.Store = "west"
	refuses(t, "another store", d, "v", west, 1, 7, api.ErrOther)
	refuses(t, "node 0", d, "v", east(), 0, 7, api.ErrMissing)
}

func TestExample5(t *testing.T) {
	d := one().lay(t, "v")
	done(t, d.Remove("v/1_0_1.data"))
	refuses(t, "a file away", d, "v", east(), 1, 7, api.ErrMissing)
	put(t, d, "v/1_0_1.data/", "")
	refuses(t, "a directory", d, "v", east(), 1, 7, api.ErrMissing)
	put(t, d, "v/journal", "")
	refuses(t, "with both", d, "v", east(), 1, 7, api.ErrMissing)
	done(t, d.Remove("v/1_0_1.data"))
	refuses(t, "a file away, and a journal", d, "v", east(), 1, 7, api.ErrMissing)
	put(t, d, "v/1_0_1.data", "")
	refuses(t, "a journal", d, "v", east(), 1, 7, api.ErrExtra)
}

func TestExample6(t *testing.T) {
	b := one()
	d := b.lay(t, "v")
	for name, good := range b.files {
		texts := []string{good + "x"}
		if good != "" {
			texts = append(texts, good[1:], good[:len(good)-1], "\x01"+good[1:], good[:len(good)-1]+"\x01")
		}
		for _, text := range texts {
			rewrite(t, d, "v/"+name, text)
			want := api.ErrDamage
			if name == "manifest" {
				_, want = paper.ParseManifest(text)
			}
			refuses(t, name, d, "v", east(), 1, 7, want)
		}
		rewrite(t, d, "v/"+name, good)
	}
}

func TestExample7(t *testing.T) {
	for what, change := range map[string]func(*api.Meta){
		"node":     func(m *api.Meta) { m.Node = 2 },
		"width":    func(m *api.Meta) { m.Width = 2 },
		"replicas": func(m *api.Meta) { m.Replicas = 3 },
		"rows":     func(m *api.Meta) { m.Rows = 2 },
	} {
		b := one()
		size := len(b.files["meta"])
		b.meta(change)
		is(t, what+": the length", len(b.files["meta"]), size)
		b.seal()
		want := api.ErrOther
		if what == "rows" {
			want = api.ErrContent
		}
		b.refused(t, what, want)
	}
}

func TestExample8(t *testing.T) {
	b := one()
	b.files["0_1_0.index"] = "s\x00\x00\x00\x00"
	b.seal()
	b.refused(t, "s in the place of r", api.ErrContent)
	b = one()
	for _, end := range []string{".index", ".data"} {
		b.files["0_1_1"+end], b.files["0_1_0"+end] = b.files["0_1_0"+end], ""
	}
	b.seal()
	b.refused(t, "in another chunk", api.ErrContent)
}

func TestExample9(t *testing.T) {
	s, d := one().opened(t)
	down(t, d)
	refuses(t, "down", d, "v", east(), 1, 7, api.ErrDown)
	getIs(t, s, "abc", "", false, api.ErrDown)
	getIs(t, s, "", "", false, api.ErrKey)
	allIs(t, s, nil)
}

func TestExample10(t *testing.T) {
	c := single(1)
	keys := groupOf(c, 3)
	b := boxOf(c, 0, 1, pairs(keys[0]+"=first", keys[2]+"=third"))
	is(t, "the index", b.files["0_0_0.index"], "r\x00\x00\x00\x00")
	s, _ := b.opened(t)
	getIs(t, s, keys[0], "first", true, api.OK)
	getIs(t, s, keys[1], "", false, api.OK)
	getIs(t, s, keys[2], "third", true, api.OK)
}

func TestReadme(t *testing.T) {
	d, e := disk.New(100000)
	done(t, e)
	c := east()
	_, e = builder.Build(d, c, api.Job{Version: 1, Memory: 1000, FanIn: 2}, pairs("oat=old", "rye=new", "oat=new"))
	done(t, e)
	s := opens(t, d, "build-1/node-2", c, 2, 1)
	is(t, "Version", s.Version(), 1)
	is(t, "Count", s.Count(), 2)
	getIs(t, s, "oat", "new", true, api.OK)
	getIs(t, s, "barley", "", false, api.OK)
	getIs(t, s, "abc", "", false, api.ErrForeign)
	scanIs(t, s, 2, pairs("oat=new", "rye=new"), api.OK)
	allIs(t, s, pairs("oat=new", "rye=new"))
	done(t, d.Append("build-1/node-2/meta", "x"))
	refuses(t, "one byte more", d, "build-1/node-2", c, 2, 1, api.ErrDamage)
}
