package builder

import (
	"cmp"
	"slices"

	"granary/api"
	"granary/digest"
	"granary/paper"
	"granary/plain"
)

// papers writes what a node's directory says of itself, and makes the directory's entries safe.
func (w *work) papers(node int) {
	text, e := paper.PrintMeta(w.meta(node))
	must(e)
	w.write(node, plain.MetaName, text)
	text, e = paper.PrintManifest(w.manifest(node))
	must(e)
	w.write(node, plain.ManifestName, text)
	must(w.disk.SyncDir(w.nodeDir(node)))
}

func (w *work) meta(node int) api.Meta {
	c := w.cluster
	return api.Meta{
		Store:    c.Store,
		Version:  w.job.Version,
		Node:     node,
		Parts:    plain.Parts(c),
		Replicas: c.Replicas,
		Width:    c.Width,
		Chunks:   c.Chunks,
		Rows:     w.held[node],
	}
}

// manifest tells of all files that the node has up to now.
func (w *work) manifest(node int) api.Manifest {
	m := api.Manifest{Store: w.cluster.Store, Version: w.job.Version, Node: node, Files: w.files(node)}
	for _, f := range m.Files {
		whole, e := digest.CRCJoin(m.Whole, f.Crc, f.Size)
		must(e)
		m.Whole = whole
		m.Total += f.Size
	}
	return m
}

func (w *work) files(node int) []api.FileRow {
	var list []api.FileRow
	for f, sum := range w.sums {
		if f.node == node {
			list = append(list, api.FileRow{Name: f.name, Size: sum.Count(), Crc: sum.CRC(), Md5: sum.MD5()})
		}
	}
	slices.SortFunc(list, func(a, b api.FileRow) int { return cmp.Compare(a.Name, b.Name) })
	return list
}
