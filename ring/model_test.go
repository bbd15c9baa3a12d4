package ring

import (
	"crypto/md5"
	"encoding/binary"
	"fmt"
	"regexp"
	"slices"
	"sort"
	"strconv"
	"strings"
	"testing"

	"granary/api"
)

// A plain reading of the chapter, against which the program is held over many clusters and texts.

var (
	plainName    = regexp.MustCompile(`^[a-z][a-z0-9-]{0,39}\z`)
	plainStore   = regexp.MustCompile(`^store ([^ ]+)\z`)
	plainSetting = regexp.MustCompile(`^([a-z]+) (0|[1-9][0-9]{0,9})\z`)
	plainNode    = regexp.MustCompile(`^node (0|[1-9][0-9]{0,9}) zone (0|[1-9][0-9]{0,9}) parts((?: (?:0|[1-9][0-9]{0,9}))*)\z`)
)

// plainCheck goes by the words of P6.1.
func plainCheck(c api.Cluster) api.Errno {
	if !plainName.MatchString(c.Store) {
		return api.ErrName
	}
	for _, s := range limits {
		if n := get(c, s.field); n < s.least || n > s.greatest {
			return api.ErrSetting
		}
	}
	if c.Burst < c.Block || c.Most < c.Base {
		return api.ErrSetting
	}
	if len(c.Nodes) == 0 || len(c.Nodes) > 16 {
		return api.ErrNodes
	}
	var all []int
	with := 0
	rising := true
	for _, n := range c.Nodes {
		if n.Zone < 0 || n.Zone > 7 {
			return api.ErrNodes
		}
		all = append(all, n.Parts...)
		rising = rising && sort.IntsAreSorted(n.Parts)
		if len(n.Parts) > 0 {
			with++
		}
	}
	slices.Sort(all)
	for i, part := range all {
		rising = rising && part == i
	}
	switch {
	case !rising || len(all) == 0 || len(all) > 64:
		return api.ErrParts
	case c.Replicas > with:
		return api.ErrCopies
	case len(all)*c.Replicas*c.Chunks > 512:
		return api.ErrBig
	}
	return api.OK
}

// plainParse goes by the words of P6.2.
func plainParse(text string) (api.Cluster, api.Errno, int) {
	if len(text) > 65536 {
		return api.Cluster{}, api.ErrBig, 0
	}
	var c api.Cluster
	seen := map[string]int{}
	for i, line := range strings.Split(text, "\n") {
		if line == "" || strings.HasPrefix(line, "#") {
			continue
		}
		if errno := plainLine(&c, seen, line); errno != api.OK {
			return api.Cluster{}, errno, i + 1
		}
	}
	if len(seen) != 22 {
		return api.Cluster{}, api.ErrLacks, 0
	}
	if errno := plainCheck(c); errno != api.OK {
		return api.Cluster{}, errno, 0
	}
	return c, api.OK, 0
}

func plainLine(c *api.Cluster, seen map[string]int, line string) api.Errno {
	if m := plainNode.FindStringSubmatch(line); m != nil && m[1] == fmt.Sprint(len(c.Nodes)) {
		n := api.NodeDef{}
		n.Zone, _ = strconv.Atoi(m[2])
		for _, word := range strings.Fields(m[3]) {
			part, _ := strconv.Atoi(word)
			n.Parts = append(n.Parts, part)
		}
		c.Nodes = append(c.Nodes, n)
		return api.OK
	}
	if m := plainStore.FindStringSubmatch(line); m != nil {
		c.Store = m[1]
		seen["store"]++
		return twice(seen["store"])
	}
	if m := plainSetting.FindStringSubmatch(line); m != nil {
		for _, s := range limits {
			if s.word == m[1] {
				n, _ := strconv.Atoi(m[2])
				*c = with(*c, s.field, n)
				seen[s.word]++
				return twice(seen[s.word])
			}
		}
	}
	return api.ErrText
}

func twice(times int) api.Errno {
	if times > 1 {
		return api.ErrTwice
	}
	return api.OK
}

// plainPrint goes by the words of P6.3.
func plainPrint(c api.Cluster) string {
	text := "store " + c.Store + "\n"
	for _, s := range limits {
		text += fmt.Sprintln(s.word, get(c, s.field))
	}
	for i, n := range c.Nodes {
		text += fmt.Sprintf("node %d zone %d parts", i, n.Zone)
		for _, part := range n.Parts {
			text += fmt.Sprint(" ", part)
		}
		text += "\n"
	}
	return text
}

// plainWalk goes by the words of P6.4 and P6.5, with the nodes that were met in a set.
func plainWalk(c api.Cluster, part int) (parts, nodes []int) {
	home := map[int]int{}
	for i, n := range c.Nodes {
		for _, p := range n.Parts {
			home[p] = i
		}
	}
	met := map[int]bool{}
	for at := part; len(parts) < c.Replicas; at++ {
		if at == len(home) {
			at = 0
		}
		if node := home[at]; !met[node] {
			met[node] = true
			parts, nodes = append(parts, at), append(nodes, node)
		}
	}
	return parts, nodes
}

func countParts(c api.Cluster) (count int) {
	for _, n := range c.Nodes {
		count += len(n.Parts)
	}
	return count
}

// valid is some cluster that is valid.
func (d *dice) valid() api.Cluster {
	c := api.Cluster{Store: d.text("az", 1) + d.text("az09-", d.roll(40))}
	for _, s := range limits {
		c = with(c, s.field, s.least+d.roll(s.greatest-s.least+1))
	}
	c.Burst, c.Most = max(c.Block, c.Burst), max(c.Base, c.Most)
	c.Nodes = make([]api.NodeDef, 1+d.roll(16))
	for part := range 1 + d.roll(64) {
		n := &c.Nodes[d.roll(len(c.Nodes))]
		n.Parts = append(n.Parts, part)
	}
	keeping := 0
	for i, n := range c.Nodes {
		c.Nodes[i].Zone = d.roll(8)
		keeping += min(1, len(n.Parts))
	}
	c.Replicas = 1 + d.roll(keeping)
	c.Chunks = 1 + d.roll(16)
	for countParts(c)*c.Replicas*c.Chunks > 512 {
		c.Replicas, c.Chunks = max(1, c.Replicas-d.roll(2)), max(1, c.Chunks-d.roll(2))
	}
	return c
}

func TestValidClustersAgainstThePlainReading(t *testing.T) {
	d := dice(6)
	for range 400 {
		c := d.valid()
		checks(t, c, api.OK)
		text := plainPrint(c)
		prints(t, c, text, api.OK)
		reads(t, text, c)
		wanted := make([][]api.Slot, len(c.Nodes))
		for part := range countParts(c) {
			parts, nodes := plainWalk(c, part)
			walks(t, c, part, api.OK, parts...)
			owns(t, c, part, api.OK, nodes...)
			for replica, node := range nodes {
				wanted[node] = append(wanted[node], api.Slot{Part: part, Replica: replica})
			}
		}
		walks(t, c, countParts(c), api.ErrPart)
		for node, slots := range wanted {
			holds(t, c, node, api.OK, slots...)
			has(t, c, node, api.OK, plainFiles(c, slots)...)
		}
		holds(t, c, len(c.Nodes), api.ErrNode)
		for range 5 {
			key := d.text("\x00abc\xff\n", 1+d.roll(255))
			locates(t, c, key, plainPlace(c, key), api.OK)
		}
	}
}

func plainFiles(c api.Cluster, slots []api.Slot) []string {
	var names []string
	for _, s := range slots {
		for chunk := range c.Chunks {
			for _, ending := range []string{"index", "data"} {
				names = append(names, fmt.Sprintf("%d_%d_%d.%s", s.Part, s.Replica, chunk, ending))
			}
		}
	}
	sort.Strings(names)
	return names
}

func plainPlace(c api.Cluster, key string) api.Place {
	sum := md5.Sum([]byte(key))
	return api.Place{
		Part:  int(binary.BigEndian.Uint32(sum[:])) % countParts(c),
		Chunk: int(binary.BigEndian.Uint32(sum[4:])) % c.Chunks,
		Hash:  string(sum[16-c.Width:]),
	}
}

// worse is a cluster with a fault or two, or none.
func (d *dice) worse(c api.Cluster) api.Cluster {
	for range 1 + d.roll(2) {
		at := &c.Nodes[d.roll(len(c.Nodes))]
		switch d.roll(6) {
		case 0:
			c.Store = d.text("az09-_A", d.roll(43))
		case 1:
			s := limits[d.roll(len(limits))]
			c = with(c, s.field, []int{s.least - 1, s.least, s.greatest, s.greatest + 1}[d.roll(4)])
		case 2:
			at.Zone = d.roll(10) - 1
		case 3:
			at.Parts = append(at.Parts, d.roll(65))
		case 4:
			if len(at.Parts) > 0 {
				at.Parts[d.roll(len(at.Parts))] = d.roll(66) - 1
			}
		case 5:
			c.Nodes = slices.Insert(c.Nodes, d.roll(len(c.Nodes)+1), api.NodeDef{})
		}
	}
	return c
}

func TestOtherClustersAgainstThePlainReading(t *testing.T) {
	d := dice(61)
	told := map[api.Errno]int{}
	for range 20000 {
		c := d.worse(d.valid())
		errno := plainCheck(c)
		told[errno]++
		if errno == api.OK {
			checks(t, c, api.OK)
		} else {
			allTell(t, c, errno)
		}
	}
	for _, errno := range []api.Errno{api.OK, api.ErrName, api.ErrSetting, api.ErrNodes, api.ErrParts, api.ErrCopies, api.ErrBig} {
		if told[errno] < 20 {
			t.Errorf("%d came %d times", errno, told[errno])
		}
	}
}

// torn is a text in which a thing or two are changed.
func (d *dice) torn(text string) string {
	for range 1 + d.roll(2) {
		lines := strings.SplitAfter(text, "\n")
		i, j := d.roll(len(lines)), d.roll(len(lines))
		at := d.roll(len(text) + 1)
		switch d.roll(7) {
		case 0:
			lines[i], lines[j] = lines[j], lines[i]
		case 1:
			lines[i] += lines[j]
		case 2:
			lines[i] = ""
		case 3:
			lines[i] = d.text("# x0", d.roll(3)) + lines[i]
		case 4:
			lines = []string{text[:at], d.text("0123456789 \n#a-", 1), text[at:]}
		case 5:
			lines = []string{text[:at], text[min(at+1, len(text)):]}
		case 6:
			lines = []string{text[:at]}
		}
		text = strings.Join(lines, "")
	}
	return text
}

func TestTextsAgainstThePlainReading(t *testing.T) {
	d := dice(62)
	told := map[api.Errno]int{}
	for i := range 20000 {
		text := eastText
		switch i % 4 {
		case 0:
			text = d.torn(plainPrint(d.worse(d.valid())))
		case 1:
			text = plainPrint(d.worse(d.valid()))
		default:
			text = d.torn(text)
		}
		c, errno, at := plainParse(text)
		told[errno]++
		if errno != api.OK {
			refuses(t, text, errno, at)
			continue
		}
		reads(t, text, c)
		prints(t, c, plainPrint(c), api.OK)
	}
	for _, errno := range []api.Errno{api.OK, api.ErrText, api.ErrTwice, api.ErrLacks, api.ErrName, api.ErrSetting, api.ErrNodes, api.ErrParts, api.ErrCopies, api.ErrBig} {
		if told[errno] < 10 {
			t.Errorf("%d came %d times", errno, told[errno])
		}
	}
}

// P6.10: whatever comes, each call ends, and tells the same again.
func TestAnyArguments(t *testing.T) {
	d := dice(63)
	numbers := []int{leastInt, -1, 0, 1, 2, 3, 16, 64, mostInt}
	some := func() int { return numbers[d.roll(len(numbers))] }
	for range 5000 {
		c := api.Cluster{Store: d.text("a-Z", d.roll(3))}
		for _, s := range limits {
			c = with(c, s.field, some())
		}
		for range d.roll(4) {
			c.Nodes = append(c.Nodes, api.NodeDef{Zone: some(), Parts: []int{some(), some()}[:d.roll(3)]})
		}
		n, key := some(), d.text("\x00k", d.roll(300))
		f := api.File{Part: some(), Replica: some(), Chunk: some(), Data: d.roll(2) == 0}
		text := d.text("store 01\n#nodezparts", d.roll(300))
		is(t, "the answers again", answers(c, n, key, f, text), answers(c, n, key, f, text))
	}
}

func answers(c api.Cluster, n int, key string, f api.File, text string) string {
	said := func(results ...any) string { return fmt.Sprintf("%+v\n", results) }
	return said(Check(c)) + said(Parse(text)) + said(Print(c)) + said(Walk(c, n)) + said(Owners(c, n)) + said(Locate(c, key)) +
		said(Holds(c, n)) + said(FileName(f)) + said(ReadName(text)) + said(Files(c, n))
}
