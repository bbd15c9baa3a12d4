package inspect

import (
	"regexp"
	"slices"
	"strconv"
	"strings"

	"granary/api"
	"granary/disk"
	"granary/paper"
	"granary/ring"
	"granary/shelf"
)

// A plain reading of the chapter: all that lies on a disk stands in a map by its path, and each name is held against patterns. What a shelf, a pointer, a manifest or a note is, the layers below say; a log is read by a pattern.

type ground map[string]api.Stored

func groundOf(d *disk.Disk) ground {
	g := ground{}
	for _, x := range d.Dump() {
		g[x.Path] = x
	}
	return g
}

func (g ground) isDir(path string) bool  { return g[path].Kind == api.IsDir }
func (g ground) isFile(path string) bool { return g[path].Kind == api.IsFile }

// in are the names of what lies in a directory; "" is the root.
func (g ground) in(dir string) []string {
	var names []string
	for path := range g {
		at := strings.LastIndex(path, "/")
		if path[:max(at, 0)] == dir {
			names = append(names, path[at+1:])
		}
	}
	return names
}

// ordered are findings by their paths.
func ordered(list []api.Finding) []api.Finding {
	slices.SortFunc(list, func(a, b api.Finding) int { return slices.Compare([]byte(a.Path), []byte(b.Path)) })
	return list
}

var (
	inStore = regexp.MustCompile(`\A(trash|version|fetch)-([1-9][0-9]{0,5})\z`)
	inDepot = regexp.MustCompile(`\A(build|part|gone)-([1-9][0-9]{0,5})\z`)
	jobForm = regexp.MustCompile(`\A(granary job 1\nnumber (0|[1-9][0-9]{0,15})\nkind (0|[1-9][0-9]{0,15})\nversion (0|[1-9][0-9]{0,15})\noutcome (0|[1-9][0-9]{0,15})\n)sum ([0-9a-f]{8})\n\z`)
)

// numbered is a name's beginning and its version.
func numbered(form *regexp.Regexp, name string) (string, int) {
	m := form.FindStringSubmatch(name)
	if m == nil {
		return "", 0
	}
	version, _ := strconv.Atoi(m[2])
	return m[1], version
}

// reader is a node's disk, as the plain reading sees it.
type reader struct {
	d    *disk.Disk
	c    api.Cluster
	node int
	g    ground
}

func plainStore(d *disk.Disk, c api.Cluster, node int) []api.Finding {
	r := reader{d, c, node, groundOf(d)}
	var list []api.Finding
	for _, name := range r.g.in("") {
		if name != "store" {
			list = append(list, isNobodys(name))
		}
	}
	if r.g.isFile("store") {
		list = append(list, f("store", 6, 14, 0, 0))
	}
	if r.g.isDir("store") {
		for _, name := range r.g.in("store") {
			list = append(list, r.inStore("store/"+name, name))
		}
	}
	return ordered(list)
}

func (r reader) inStore(path, name string) api.Finding {
	begin, version := numbered(inStore, name)
	switch {
	case name == "latest":
		return r.latest(path)
	case name == "latest.new":
		return f(path, 3, 0, 0, 0)
	case begin == "trash":
		return f(path, 3, 0, version, 0)
	case begin == "version":
		s, e := shelf.Open(r.d, path, r.c, r.node, version)
		if e != api.OK {
			return f(path, 6, e, version, 0)
		}
		return f(path, 1, 0, version, s.Count())
	case begin == "fetch" && r.g.isDir(path):
		code, count := r.partial(path, version)
		return f(path, 2, code, version, count)
	}
	return isNobodys(path)
}

func (r reader) latest(path string) api.Finding {
	p, e := paper.ParsePointer(r.g[path].Data)
	if !r.g.isFile(path) || e != api.OK {
		return f(path, 6, 120, 0, 0)
	}
	if p.Cur > 0 {
		if _, e := shelf.Open(r.d, "store/version-"+strconv.Itoa(p.Cur), r.c, r.node, p.Cur); e != api.OK {
			return f(path, 6, 121, p.Cur, 0)
		}
	}
	return f(path, 1, 0, p.Cur, 0)
}

func (r reader) partial(dir string, version int) (api.Errno, int) {
	text := r.g[dir+"/manifest"].Data
	m, e := paper.ParseManifest(text)
	switch {
	case !r.g.isFile(dir + "/manifest"):
		return 91, 0
	case e != api.OK:
		return e, 0
	case m.Store != r.c.Store, m.Version != version, m.Node != r.node:
		return 90, 0
	}
	belong := []string{"manifest"}
	for _, row := range m.Files {
		belong = append(belong, row.Name)
		if row.Name == "manifest" || row.Name == "journal" {
			return 87, 0
		}
	}
	if m.Total > r.c.Quota {
		return 112, 0
	}
	for _, row := range m.Files {
		if row.Size == 0 && row != (api.FileRow{Name: row.Name, Md5: md("")}) {
			return 114, 0
		}
	}
	hasJournal := false
	names := slices.DeleteFunc(r.g.in(dir), func(name string) bool {
		hasJournal = hasJournal || name == "journal"
		return name == "journal"
	})
	slices.Sort(names)
	slices.Sort(belong)
	if !slices.Equal(names, belong) || slices.ContainsFunc(append(names, "journal"), func(name string) bool { return r.g.isDir(dir + "/" + name) }) {
		return 92, 0
	}
	if !hasJournal {
		for _, row := range m.Files {
			if !fits(row, r.g[dir+"/"+row.Name].Data) {
				return 93, 0
			}
		}
		return 0, m.Total
	}
	notes, _ := paper.ParseNotes(r.g[dir+"/journal"].Data)
	if len(notes) == 0 || notes[0] != (api.Note{Kind: 1, File: version, Upto: 0, Crc: crc(text)}) {
		return 40, 0
	}
	sum := 0
	for i, row := range m.Files {
		sum += safeOf(i, row, notes, r.g[dir+"/"+row.Name].Data)
	}
	return 0, sum
}

func fits(row api.FileRow, data string) bool {
	return row == (api.FileRow{Name: row.Name, Size: len(data), Crc: crc(data), Md5: md(data)})
}

// safeOf is how many bytes of a row are safe when its directory has been taken up.
func safeOf(i int, row api.FileRow, notes []api.Note, data string) int {
	upto, sum, whole := 0, 0, false
	for _, n := range notes {
		if n.File != i {
			continue
		}
		if n.Kind == 2 && n.Upto <= row.Size {
			upto, sum, whole = n.Upto, n.Crc, false
		}
		if n.Kind == 3 {
			whole = true
		}
	}
	if whole && fits(row, data) {
		return row.Size
	}
	if row.Size == 0 || len(data) < upto || crc(data[:upto]) != sum {
		return 0
	}
	if upto == row.Size && !fits(row, data[:upto]) {
		return 0
	}
	return upto
}

func plainDepot(d *disk.Disk, c api.Cluster) []api.Finding {
	r := reader{d: d, c: c, g: groundOf(d)}
	var list []api.Finding
	for _, name := range r.g.in("") {
		begin, version := numbered(inDepot, name)
		switch {
		case begin == "build" && r.g.isDir(name):
			list = append(list, r.build(name, version)...)
		case begin == "build":
			list = append(list, f(name, 6, 14, version, 0))
		case begin == "part":
			list = append(list, f(name, 3, 0, version, 0))
		case begin == "gone":
			list = append(list, f(name, 4, 0, version, 0))
		default:
			list = append(list, isNobodys(name))
		}
	}
	return ordered(list)
}

// build looks at a version: what each key's owners have of it is held against each other.
func (r reader) build(path string, version int) []api.Finding {
	var list []api.Finding
	nodes := map[string]bool{}
	values := make([]map[string]string, len(r.c.Nodes))
	why := api.OK
	for node := range r.c.Nodes {
		name := "node-" + strconv.Itoa(node)
		nodes[name] = true
		s, e := shelf.Open(r.d, path+"/"+name, r.c, node, version)
		if e != api.OK {
			list = append(list, f(path+"/"+name, 6, e, version, 0))
			if why == api.OK {
				why = e
			}
			continue
		}
		list = append(list, f(path+"/"+name, 1, 0, version, s.Count()))
		values[node] = map[string]string{}
		for p := range s.All() {
			values[node][p.Key] = p.Value
		}
	}
	for _, name := range r.g.in(path) {
		if !nodes[name] {
			list = append(list, isNobodys(path+"/"+name))
		}
	}
	keys, alike := r.keys(values, why)
	switch {
	case why != api.OK:
		return append(list, f(path, 6, why, version, 0))
	case !alike:
		return append(list, f(path, 6, 94, version, 0))
	}
	return append(list, f(path, 1, 0, version, keys))
}

func (r reader) keys(values []map[string]string, why api.Errno) (int, bool) {
	all := map[string]bool{}
	if why != api.OK {
		return 0, false
	}
	for _, of := range values {
		for key, value := range of {
			all[key] = true
			place, _ := ring.Locate(r.c, key)
			owners, _ := ring.Owners(r.c, place.Part)
			for _, owner := range owners {
				if v, ok := values[owner][key]; !ok || v != value {
					return 0, false
				}
			}
		}
	}
	return len(all), true
}

func plainDesk(d *disk.Disk) []api.Finding {
	g := groundOf(d)
	var list []api.Finding
	for _, name := range g.in("") {
		switch {
		case name == "job" && g.isDir(name):
			list = append(list, f(name, 6, 14, 0, 0))
		case name == "job":
			list = append(list, plainJob(g[name].Data))
		case name == "job.new" && len(g.in(name)) > 0:
			list = append(list, f(name, 6, 17, 0, 0))
		case name == "job.new":
			list = append(list, f(name, 3, 0, 0, 0))
		default:
			list = append(list, isNobodys(name))
		}
	}
	return ordered(list)
}

func plainJob(text string) api.Finding {
	parts := jobForm.FindStringSubmatch(text)
	if parts == nil {
		return f("job", 6, 40, 0, 0)
	}
	if sealed(parts[1]) != text {
		return f("job", 6, 41, 0, 0)
	}
	var n [4]int
	for i := range n {
		n[i], _ = strconv.Atoi(parts[2+i])
	}
	number, kind, version, outcome := n[0], n[1], n[2], n[3]
	isLook := kind == 3 && version == 0 && outcome == 3
	isChange := (kind == 1 || kind == 2) && 1 <= version && version <= last && outcome <= 3
	if number < 1 || number > most || !isLook && !isChange {
		return f("job", 6, 42, 0, 0)
	}
	if outcome == 0 {
		return f("job", 2, 0, version, number)
	}
	return f("job", 1, 0, version, number)
}
