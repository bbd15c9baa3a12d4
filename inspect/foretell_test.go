package inspect

import (
	"slices"
	"strings"
	"testing"

	"granary/api"
	"granary/builder"
	"granary/control"
	"granary/disk"
	"granary/engine"
	"granary/fetch"
	"granary/paper"
	"granary/steward"
)

// P22.7: what is told is held against what comes of it over copies of the disk.

// at is what is found at a path, if anything is.
func at(list []api.Finding, path string) api.Finding {
	for _, x := range list {
		if x.Path == path {
			return x
		}
	}
	return api.Finding{}
}

// versionsOf are the versions that are found to be of a kind in a directory, under names that begin so, rising.
func versionsOf(list []api.Finding, kind int, begin string) []int {
	var versions []int
	for _, x := range list {
		if name, ok := strings.CutPrefix(x.Path, begin); ok && x.Kind == kind && !strings.Contains(name, "/") {
			versions = append(versions, x.Version)
		}
	}
	slices.Sort(versions)
	return versions
}

// without is what lies on a disk but for what lies at these paths.
func without(dump []api.Stored, paths []string) []api.Stored {
	return slices.DeleteFunc(slices.Clone(dump), func(x api.Stored) bool {
		return slices.ContainsFunc(paths, func(path string) bool { return x.Path == path || strings.HasPrefix(x.Path, path+"/") })
	})
}

// lies holds what lies on a disk.
func lies(t *testing.T, what string, d *disk.Disk, want []api.Stored) {
	t.Helper()
	if got := d.Dump(); !slices.Equal(got, want) {
		t.Errorf("%s: there lies\n     %+v, want\n     %+v", what, got, want)
	}
}

func foretellsStore(t *testing.T, what string, d *disk.Disk, c api.Cluster, node int) {
	t.Helper()
	list, e := Store(d, c, node)
	is(t, what+": Store", e, api.OK)
	opens(t, what, copied(t, d), c, node, list)
	for _, x := range list {
		if x.Kind == isPartial {
			begins(t, what+": "+x.Path, copied(t, d), c, x)
		}
	}
}

// opens holds what comes of an Open.
func opens(t *testing.T, what string, d *disk.Disk, c api.Cluster, node int, list []api.Finding) {
	t.Helper()
	ahead := d.Dump()
	x, e := engine.Open(d, c, node)
	house, latest := at(list, "store"), at(list, "store/latest")
	for _, wrong := range []api.Finding{house, latest} {
		if wrong.Kind == isBroken {
			is(t, what+": Open", e, wrong.Code)
			lies(t, what, d, ahead)
			return
		}
	}
	is(t, what+": Open", e, api.OK)
	s := x.State()
	is(t, what+": Cur", s.Cur, latest.Version)
	same(t, what+": Have", append([]int{}, s.Have...), append([]int{}, versionsOf(list, isGood, "store/version-")...))
	same(t, what+": Partial", append([]int{}, x.Partial()...), append([]int{}, versionsOf(list, isPartial, "store/fetch-")...))
	var paths []string
	for _, x := range list {
		if x.Kind == isLeft || x.Kind == isBroken {
			paths = append(paths, x.Path)
		}
	}
	want := without(ahead, paths)
	if !slices.ContainsFunc(want, func(x api.Stored) bool { return x.Path == "store" }) {
		want = append(want, api.Stored{Path: "store", Kind: api.IsDir})
		slices.SortFunc(want, func(a, b api.Stored) int { return strings.Compare(a.Path, b.Path) })
	}
	lies(t, what+": behind Open", d, want)
}

// begins holds what comes of a Begin in a partial directory, with the manifest that lies there.
func begins(t *testing.T, what string, d *disk.Disk, c api.Cluster, x api.Finding) {
	t.Helper()
	text, e := d.Read(x.Path+"/manifest", 0, mostInt)
	if e != api.OK {
		is(t, what+": without a manifest", x.Code, api.ErrMissing)
		return
	}
	if x.Code == api.ErrOther {
		return // a Begin does not ask whose manifest it is
	}
	files, _ := d.List(x.Path)
	armed := copied(t, d)
	done(t, armed.Arm(1))
	j, e := fetch.Begin(d, x.Path, text, limitsOf(c, 64))
	_, parsed := paper.ParseManifest(text)
	switch x.Code {
	case api.ErrFile, api.ErrQuota, api.ErrWhole:
		is(t, what+": Begin", e, x.Code)
		return
	case api.OK:
		is(t, what+": Begin", e, api.OK)
		is(t, what+": Got", j.State().Got, x.Count)
	default:
		if parsed != api.OK {
			is(t, what+": the manifest", parsed, x.Code)
			is(t, what+": Begin", e, parsed)
			return
		}
		is(t, what+": Begin", e, api.OK)
		is(t, what+": Got", j.State().Got, 0)
	}
	// A directory that is taken up is synced first; one that is not loses an entry first.
	fetch.Begin(armed, x.Path, text, limitsOf(c, 64))
	armed.Crash(mostInt, mostInt)
	rest, _ := armed.List(x.Path)
	is(t, what+": it is taken up", len(rest) == len(files), x.Code == api.OK)
}

func foretellsDepot(t *testing.T, what string, d *disk.Disk, c api.Cluster) {
	t.Helper()
	list, e := Depot(d, c)
	is(t, what+": Depot", e, api.OK)
	other := copied(t, d)
	versions, e := builder.Versions(other)
	is(t, what+": Versions", e, api.OK)
	var dirs []int
	for _, x := range list {
		if build, isNode := strings.CutSuffix(x.Path, "/node-0"); isNode {
			dirs = append(dirs, at(list, build).Version)
		}
	}
	slices.Sort(dirs)
	same(t, what+": Versions", append([]int{}, versions...), append([]int{}, dirs...))
	ahead := other.Dump()
	is(t, what+": Clean", builder.Clean(other), api.OK)
	var paths []string
	for _, x := range list {
		if x.Kind == isLeft {
			paths = append(paths, x.Path)
		}
	}
	lies(t, what+": behind Clean", other, without(ahead, paths))
	for _, version := range []int{1, 2, 3, 7, 8, last} {
		used := false
		for _, begin := range []string{"build-", "gone-"} {
			for _, kind := range []int{isGood, isGone, isBroken} {
				used = used || slices.Contains(versionsOf(list, kind, begin), version)
			}
		}
		_, e := builder.Build(copied(t, d), c, api.Job{Version: version, Memory: 65536, FanIn: 2}, nil)
		is(t, what+": Build", e == api.ErrBuilt, used)
	}
}

func foretellsDesk(t *testing.T, what string, d *disk.Disk) {
	t.Helper()
	list, e := Desk(d)
	is(t, what+": Desk", e, api.OK)
	other, c := copied(t, d), east()
	ahead := other.Dump()
	s, e := steward.New(c, other)
	is(t, what+": New", e, api.OK)
	out, e := s.Boot()
	log, left := at(list, "job"), at(list, "job.new")
	for _, wrong := range []api.Finding{log, left} {
		if wrong.Kind == isBroken {
			is(t, what+": Boot", e, wrong.Code)
			lies(t, what, other, ahead)
			return
		}
	}
	is(t, what+": Boot", e, api.OK)
	lies(t, what+": behind Boot", other, without(ahead, []string{"job.new"}))
	var want []api.Msg
	if log.Kind == isPartial {
		_, want, e = control.Resume(c, log.Count, api.JobSwap, log.Version, true)
		is(t, what+": Resume", e, api.OK)
		is(t, what+": the messages", len(want), len(c.Nodes))
		is(t, what+": the messages' job", want[0].Id, log.Count)
	}
	same(t, what+": Boot's messages", append([]api.Msg{}, out...), append([]api.Msg{}, want...))
	is(t, what+": Busy", s.Busy(), log.Kind == isPartial)
}
