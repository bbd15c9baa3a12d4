package builder

import (
	"cmp"
	"slices"

	"granary/api"
	"granary/paper"
	"granary/plain"
)

// papers writes what a node's directory says of itself, and makes the directory's entries safe.
func (w *work) papers(node int) {
	c, version := w.cluster, w.job.Version
	text, e := paper.PrintMeta(plain.MetaOf(c, version, node, w.held[node]))
	must(e)
	w.write(node, plain.MetaName, text)
	text, e = paper.PrintManifest(plain.ManifestOf(c, version, node, w.files(node)))
	must(e)
	w.write(node, plain.ManifestName, text)
	must(w.disk.SyncDir(w.nodeDir(node)))
}

// files are the rows of all files that the node has up to now.
func (w *work) files(node int) []api.FileRow {
	var list []api.FileRow
	for f, sum := range w.sums {
		if f.node == node {
			list = append(list, api.FileRow{Name: f.name, Size: sum.Count(), Crc: sum.CRC(), Md5: sum.MD5()})
		}
	}
	slices.SortFunc(list, func(a, b api.FileRow) int { return cmp.Compare(a.Name, b.Name) })
	return list
}
