package ring

import (
	"fmt"
	"slices"
	"strings"
	"testing"

	"granary/api"
)

// P6.2

func TestTextOf65536Bytes(t *testing.T) {
	room := 65536 - len(eastText)
	reads(t, eastText+strings.Repeat("#", room), east())
	reads(t, eastText+strings.Repeat("\n", room), east())
	reads(t, strings.Repeat("#", room-1)+"\n"+eastText, east())
	refuses(t, eastText+strings.Repeat("#", room+1), api.ErrBig, 0)
	refuses(t, eastText+strings.Repeat("\n", room+1), api.ErrBig, 0)
	refuses(t, strings.Repeat("x", 65536), api.ErrText, 1)
	refuses(t, strings.Repeat("x", 65537), api.ErrBig, 0)
	refuses(t, strings.Repeat("\n", 65535)+"x", api.ErrText, 65536)
	refuses(t, strings.Repeat("\n", 65536), api.ErrLacks, 0)
	refuses(t, strings.Repeat("#", 65536), api.ErrLacks, 0)
}

func TestLinesThatSayNothing(t *testing.T) {
	for _, nothing := range []string{"", "#", "##", "# width 2", "#width 2", "#\r", "# \x00\xff", "#store east"} {
		for at := 1; at <= 25; at++ {
			reads(t, line(at, nothing, eastLines()[at-1]), east())
		}
		reads(t, eastText+nothing, east())
		reads(t, eastText+nothing+"\n", east())
	}
	for _, something := range []string{" ", "  ", " #", "\t", "\r", "\x00", " # a word", "//", ";"} {
		for _, at := range []int{1, 3, 25} {
			refuses(t, line(at, something, eastLines()[at-1]), api.ErrText, at)
		}
		refuses(t, eastText+something, api.ErrText, 26)
	}
}

func TestLastLineWithoutItsLineFeed(t *testing.T) {
	reads(t, strings.TrimSuffix(eastText, "\n"), east())
	refuses(t, eastText+"x", api.ErrText, 26)
	refuses(t, eastText+"width 1", api.ErrTwice, 26)
	refuses(t, eastText+"\n\nx", api.ErrText, 28)
	two := east()
	two.Nodes = two.Nodes[:2]
	reads(t, strings.TrimSuffix(line(25), "\n"), two)
	refuses(t, strings.TrimSuffix(eastText, "3\n"), api.ErrText, 25)
}

func TestStoreLines(t *testing.T) {
	for _, wrong := range []string{"store", "store ", "store  east", "store east ", " store east", "store east west", "Store east", "stores east", "store\teast", "storeeast", "stor east"} {
		refuses(t, line(1, wrong), api.ErrText, 1)
	}
	for _, name := range []string{"East", "#", "1", "a_b", "east\r", "\x00", "\xff", "store\t", "é", strings.Repeat("s", 41), strings.Repeat("s", 60000)} {
		refuses(t, line(1, "store "+name), api.ErrName, 0)
	}
	for _, name := range []string{"a", "store", "node", "width", strings.Repeat("s", 40)} {
		c := east()
		c.Store = name
		reads(t, line(1, "store "+name), c)
	}
}

func TestSettingLines(t *testing.T) {
	for i, s := range limits {
		at := i + 2
		n := fmt.Sprint(get(east(), s.field))
		for _, wrong := range []string{
			s.word, s.word + " ", s.word + "  " + n, s.word + " " + n + " ", " " + s.word + " " + n, s.word + " " + n + " " + n, s.word + "\t" + n, s.word + n,
			strings.ToUpper(s.word[:1]) + s.word[1:] + " " + n, s.word[1:] + " " + n, s.word + "s " + n, s.field + " " + n,
			s.word + " 0" + n, s.word + " 00", s.word + " -1", s.word + " +" + n, s.word + " " + n + "\r", s.word + " x", s.word + " 1x", s.word + " 1.0", s.word + " 1_0", s.word + " 0x1", s.word + " 12345678901", s.word + " 10000000000", s.word + " 00000000001", s.word + " 99999999999999999999",
		} {
			refuses(t, line(at, wrong), api.ErrText, at)
		}
		for _, far := range []int{s.least - 1, s.greatest + 1, 9999999999} {
			if far >= 0 {
				refuses(t, line(at, fmt.Sprint(s.word, " ", far)), api.ErrSetting, 0)
			}
		}
	}
}

func TestDigits(t *testing.T) {
	for b := range 256 {
		digit := b >= '0' && b <= '9'
		for _, text := range []string{string([]byte{byte(b)}), string([]byte{'1', byte(b)})} {
			got, e, at := Parse(line(13, "quota "+text))
			switch {
			case b == '\n' && text == "\n": // the number is lacking
				is(t, "a line feed", fmt.Sprint(e, at), fmt.Sprint(api.ErrText, 13))
			case b == '\n' || digit && text != "0":
				is(t, fmt.Sprintf("quota %q", text), fmt.Sprint(got.Quota, e, at), strings.TrimSpace(text)+" 0 0")
			case text == "0":
				is(t, "quota 0", fmt.Sprint(e, at), fmt.Sprint(api.ErrSetting, 0))
			default:
				is(t, fmt.Sprintf("quota %q", text), fmt.Sprint(e, at), fmt.Sprint(api.ErrText, 13))
			}
		}
	}
	for _, n := range []int{1, 9, 10, 99, 100, 123456789, 1073741824} {
		reads(t, line(13, fmt.Sprint("quota ", n)), with(east(), "Quota", n))
	}
	reads(t, line(22, "home 7"), with(east(), "Home", 7))
}

func TestNodeLines(t *testing.T) {
	for _, wrong := range []string{
		"node", "node ", "node 1", "node 1 zone", "node 1 zone 0", "node 1 zone 0 ", "node 1 zone 0 part 1", "node 1 zone 0 Parts 1", "node 1 Zone 0 parts 1", "Node 1 zone 0 parts 1", "nodes 1 zone 0 parts 1",
		"node 1 parts 1 zone 0", "node zone 0 parts 1", "node 1 zone parts 1", "node 1 0 parts 1", "node 1 zone 0 1", "node 1 zone 0 parts1", "1 zone 0 parts 1",
		"node 1 zone 0 parts 1 ", "node 1 zone 0 parts  1", "node 1 zone 0  parts 1", "node 1 zone  0 parts 1", "node 1  zone 0 parts 1", "node  1 zone 0 parts 1", " node 1 zone 0 parts 1", "node 1 zone 0 parts ", "node 1 zone 0 parts 1\r", "node 1 zone 0 parts 1\t2",
		"node 0 zone 0 parts 1", "node 2 zone 0 parts 1", "node 01 zone 0 parts 1", "node -1 zone 0 parts 1", "node x zone 0 parts 1", "node 10000000001 zone 0 parts 1",
		"node 1 zone 00 parts 1", "node 1 zone -1 parts 1", "node 1 zone x parts 1", "node 1 zone 10000000000 parts 1",
		"node 1 zone 0 parts 01", "node 1 zone 0 parts -1", "node 1 zone 0 parts x", "node 1 zone 0 parts 1 x", "node 1 zone 0 parts x 1", "node 1 zone 0 parts 1,2", "node 1 zone 0 parts 10000000000", "node 1 zone 0 parts 1 # one",
	} {
		refuses(t, line(24, wrong), api.ErrText, 24)
	}
	refuses(t, line(24, "node 1 zone 8 parts 1"), api.ErrNodes, 0)
	refuses(t, line(24, "node 1 zone 9999999999 parts 1"), api.ErrNodes, 0)
	refuses(t, line(24, "node 1 zone 0 parts 9999999999"), api.ErrParts, 0)
	refuses(t, line(24, "node 1 zone 0 parts 1 1"), api.ErrParts, 0)
	refuses(t, line(24, "node 1 zone 0 parts 4"), api.ErrParts, 0)
	refuses(t, line(24, "node 1 zone 0 parts"), api.ErrParts, 0)
	refuses(t, line(24, "node 1 zone 0 parts 4 1"), api.ErrParts, 0)
	c := east()
	c.Nodes[1] = api.NodeDef{Zone: 7, Parts: []int{1, 4, 5}}
	reads(t, line(24, "node 1 zone 7 parts 1 4 5"), c)
}

func TestOrderOfNodeLines(t *testing.T) {
	lines := eastLines()
	lines[22], lines[23] = lines[23], lines[22]
	refuses(t, joined(lines), api.ErrText, 23)
	refuses(t, line(23), api.ErrText, 23)
	refuses(t, line(24), api.ErrText, 24)
	refuses(t, line(24, "node 1 zone 0 parts 1", "node 1 zone 0 parts 1"), api.ErrText, 25)
	apart := slices.Concat(eastLines()[22:23], eastLines()[:10], eastLines()[23:24], eastLines()[10:22], eastLines()[24:])
	reads(t, joined(apart), east())
}

func TestManyNodeLines(t *testing.T) {
	head := joined(eastLines()[:22])
	refuses(t, head, api.ErrNodes, 0)
	text := head
	for i := range 2000 {
		text += fmt.Sprintf("node %d zone 0 parts %d\n", i, i)
		switch {
		case i == 0:
			refuses(t, text, api.ErrCopies, 0)
		case i < 16:
			c := east()
			c.Nodes = dealt(i+1, i+1)
			reads(t, text, c)
		case i == 16 || i == 1999:
			refuses(t, text, api.ErrNodes, 0)
		}
	}
	many := "node 0 zone 0 parts"
	for i := range 10000 {
		many += fmt.Sprint(" ", i)
	}
	refuses(t, line(23, many), api.ErrParts, 0)
}

func TestEveryLineTwiceOrLacking(t *testing.T) {
	for at := 1; at <= 22; at++ {
		once := eastLines()[at-1]
		refuses(t, line(at), api.ErrLacks, 0)
		refuses(t, line(at, "#"+once), api.ErrLacks, 0)
		refuses(t, line(at, once, once), api.ErrTwice, at+1)
		refuses(t, once+"\n"+eastText, api.ErrTwice, at+1)
		refuses(t, eastText+once, api.ErrTwice, 26)
		word, _, _ := strings.Cut(once, " ")
		refuses(t, eastText+word+" 7\n"+"x", api.ErrTwice, 26)
		refuses(t, eastText+word+" 9999999999\n", api.ErrTwice, 26)
		refuses(t, eastText+word+"\n"+once, api.ErrText, 26)
	}
	refuses(t, "store east\n", api.ErrLacks, 0)
	refuses(t, "store East\n", api.ErrLacks, 0)
	refuses(t, "width 0\nnode 0 zone 9 parts 7 7\n", api.ErrLacks, 0)
	refuses(t, "node 0 zone 0 parts 0\n", api.ErrLacks, 0)
	refuses(t, line(3, "width 0", "width 1"), api.ErrTwice, 4)
}

func TestFirstWrongLine(t *testing.T) {
	refuses(t, line(3, "x", "width 1", "width 1"), api.ErrText, 3)
	refuses(t, line(3, "width 1", "width 1", "x"), api.ErrTwice, 4)
	refuses(t, line(3, "width 1", "width x"), api.ErrText, 4)
	refuses(t, line(3, "width 0", "#", "", "x"), api.ErrText, 6)
	refuses(t, "x", api.ErrText, 1)
	refuses(t, "x\nx\n", api.ErrText, 1)
	refuses(t, "\nstore a\nstore a\nx\n", api.ErrTwice, 3)
	refuses(t, "store East\nwidth 99\nx", api.ErrText, 3)
}

// P6.3

func TestPrint(t *testing.T) {
	prints(t, east(), eastText, api.OK)
	c := wide()
	c.Store = "a-9"
	c.Nodes = []api.NodeDef{{Zone: 7}, {Zone: 1, Parts: []int{1, 2, 10}}, {Parts: []int{}}, {Zone: 2, Parts: []int{0, 3, 4, 5, 6, 7, 8, 9}}}
	text, _ := Print(c)
	is(t, "the end", strings.HasSuffix(text, "\nhome 0\nnode 0 zone 7 parts\nnode 1 zone 1 parts 1 2 10\nnode 2 zone 0 parts\nnode 3 zone 2 parts 0 3 4 5 6 7 8 9\n"), true)
	reads(t, text, c)
}

func TestPrintEverySetting(t *testing.T) {
	for i, s := range limits {
		for _, n := range []int{s.least, s.greatest} {
			c := with(wide(), s.field, n)
			text, e := Print(c)
			is(t, "Print", e, api.OK)
			is(t, "the setting's line", strings.Split(text, "\n")[i+1], fmt.Sprint(s.word, " ", n))
			is(t, "lines", strings.Count(text, "\n"), 1+21+16)
			reads(t, text, c)
		}
	}
}

func TestOneWayToWriteIt(t *testing.T) {
	lines := eastLines()
	slices.Reverse(lines[:22])
	c, e, _ := Parse("#\n" + strings.Join(lines, "\n\n"))
	is(t, "Parse", e, api.OK)
	prints(t, c, eastText, api.OK)
}
