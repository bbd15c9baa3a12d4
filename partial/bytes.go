package partial

import (
	"granary/api"
	"granary/digest"
	"granary/disk"
)

// piece is how much of a file is read at a time: it may be greater than the memory is.
const piece = 1 << 16

// Of is the path of one of the directory's files.
func (p Dir) Of(name string) string { return disk.Path(p.Path, name) }

// Read is a file's bytes. One that cannot be read has none: the next act for it is refused.
func (p Dir) Read(name string) string {
	text, _ := p.Disk.Read(p.Of(name), 0, p.Size(name))
	return text
}

// Size is how many bytes a file has.
func (p Dir) Size(name string) int {
	size, _ := p.Disk.Size(p.Of(name))
	return size
}

// Fits tells whether a row's file is whole by its bytes.
func (p Dir) Fits(r api.FileRow) bool {
	return p.Size(r.Name) == r.Size && p.Starts(r)
}

// Starts tells whether a row's file would be whole if it were cut to the row's size.
func (p Dir) Starts(r api.FileRow) bool {
	sums := p.sums(r.Name, r.Size)
	return sums.Count() == r.Size && sums.CRC() == r.Crc && sums.MD5() == r.Md5
}

// begins tells whether a file begins with so many bytes of that sum.
func (p Dir) begins(name string, count, sum int) bool {
	sums := p.sums(name, count)
	return sums.Count() == count && sums.CRC() == sum
}

// sums are those of a file's first bytes, of so many as there are up to n.
func (p Dir) sums(name string, n int) *digest.Hasher {
	sums := digest.NewHasher()
	for sums.Count() < n {
		text, e := p.Disk.Read(p.Of(name), sums.Count(), min(n-sums.Count(), piece))
		if e != api.OK || text == "" {
			break
		}
		sums.Write(text)
	}
	return sums
}
