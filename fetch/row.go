package fetch

import (
	"slices"
	"strings"

	"granary/api"
	"granary/digest"
	"granary/disk"
)

// piece is how much of a file is read at a time: it may be greater than the memory is.
const piece = 1 << 16

// row is a file of the manifest, and how far it is.
type row struct {
	api.FileRow
	safe  int // bytes that need not be asked for again
	sum   int // their CRC
	whole bool
}

// lies says where the job lies, and which rows it has.
func (j *Job) lies(d *disk.Disk, dir string, m api.Manifest) {
	j.disk, j.dir, j.version = d, strings.Clone(dir), m.Version
	for _, f := range m.Files {
		f.Name = strings.Clone(f.Name) // else it would keep all of the manifest's text
		j.rows = append(j.rows, row{FileRow: f})
	}
}

// current is the number of the first row that is not whole, or of all rows.
func (j *Job) current() int {
	at := slices.IndexFunc(j.rows, func(r row) bool { return !r.whole })
	if at < 0 {
		return len(j.rows)
	}
	return at
}

// itemOf is what a row is called where its failures are counted.
func itemOf(at int) api.Item { return api.Item{File: at} }

func (j *Job) path(name string) string { return disk.Path(j.dir, name) }

// read is a file's bytes. One that cannot be read has none: the next act for it is refused.
func (j *Job) read(name string) string {
	text, _ := j.disk.Read(j.path(name), 0, j.size(name))
	return text
}

func (j *Job) size(name string) int {
	size, _ := j.disk.Size(j.path(name))
	return size
}

// sums are those of a file's first bytes, of so many as there are up to n.
func (j *Job) sums(name string, n int) *digest.Hasher {
	sums := digest.NewHasher()
	for sums.Count() < n {
		text, e := j.disk.Read(j.path(name), sums.Count(), min(n-sums.Count(), piece))
		if e != api.OK || text == "" {
			break
		}
		sums.Write(text)
	}
	return sums
}

// fits tells whether a row's file is whole by its bytes.
func (j *Job) fits(r row) bool {
	if j.size(r.Name) != r.Size {
		return false
	}
	sums := j.sums(r.Name, r.Size)
	return sums.CRC() == r.Crc && sums.MD5() == r.Md5
}

// begins tells whether a row's file begins with so many bytes of that sum.
func (j *Job) begins(r row, count, sum int) bool {
	sums := j.sums(r.Name, count)
	return sums.Count() == count && sums.CRC() == sum
}
