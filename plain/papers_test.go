package plain

import (
	"reflect"
	"testing"

	"granary/api"
	"granary/digest"
)

func TestMetaOf(t *testing.T) {
	c := api.Cluster{Store: "east", Replicas: 2, Width: 3, Chunks: 4, Retain: 5, Nodes: []api.NodeDef{{Parts: []int{0, 2}}, {}, {Parts: []int{1}}}}
	want := api.Meta{Store: "east", Version: 7, Node: 1, Parts: 3, Replicas: 2, Width: 3, Chunks: 4, Rows: 9}
	if got := MetaOf(c, 7, 1, 9); got != want {
		t.Errorf("MetaOf = %+v", got)
	}
}

func TestManifestOf(t *testing.T) {
	row := func(name, text string) api.FileRow {
		return api.FileRow{Name: name, Size: len(text), Crc: digest.CRC(text), Md5: digest.MD5(text)}
	}
	c := api.Cluster{Store: "east"}
	for _, files := range [][]api.FileRow{nil, {row("a", "")}, {row("a", "abc"), row("b", ""), row("c", "defg")}} {
		want := api.Manifest{Store: "east", Version: 7, Node: 1, Files: files}
		if len(files) == 3 {
			want.Total, want.Whole = 7, digest.CRC("abcdefg")
		}
		if got := ManifestOf(c, 7, 1, files); !reflect.DeepEqual(got, want) {
			t.Errorf("ManifestOf = %+v, want %+v", got, want)
		}
	}
}
