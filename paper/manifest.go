package paper

import (
	"strings"

	"granary/api"
	"granary/digest"
)

const (
	manifestTitle = "granary manifest 1\n"
	mostRows      = 2*api.MaxFiles + 1 // an index and a data file each, and the meta file
)

// PrintManifest writes a manifest.
func PrintManifest(m api.Manifest) (string, api.Errno) {
	if errno := check(m); errno != api.OK {
		return "", errno
	}
	count := len(m.Files)
	var out strings.Builder
	out.WriteString(manifestTitle + written(headTable(&m, &count)))
	for _, row := range m.Files {
		out.WriteString(written(rowTable(&row)))
	}
	out.WriteString(written(tailTable(&m)))
	return sealed(out.String(), sumLine), api.OK
}

// ParseManifest reads one; it takes just what PrintManifest writes.
func ParseManifest(text string) (api.Manifest, api.Errno) {
	var m api.Manifest
	var count int
	r := reader{text: text}
	if !r.skip(manifestTitle) || !r.read(headTable(&m, &count)) || !r.readRows(&m, count) || !r.read(tailTable(&m)) {
		return api.Manifest{}, api.ErrForm
	}
	errno := r.close()
	if errno == api.OK {
		errno = check(m)
	}
	if errno != api.OK {
		return api.Manifest{}, errno
	}
	return m, api.OK
}

// readRows makes no room ahead of reading: the count may be far above the lines that are there.
func (r *reader) readRows(m *api.Manifest, count int) bool {
	for range count {
		var row api.FileRow
		if !r.read(rowTable(&row)) {
			return false
		}
		m.Files = append(m.Files, row)
	}
	return true
}

// check tells why a manifest cannot be printed.
func check(m api.Manifest) api.Errno {
	count := len(m.Files)
	if !fit(headTable(&m, &count)) || !fit(tailTable(&m)) || !rowsFit(m.Files) {
		return api.ErrField
	}
	if total, whole := totals(m.Files); total != m.Total || whole != m.Whole {
		return api.ErrTotal
	}
	return api.OK
}

func rowsFit(rows []api.FileRow) bool {
	for i, row := range rows {
		if !fit(rowTable(&row)) || i > 0 && row.Name <= rows[i-1].Name {
			return false
		}
	}
	return true
}

// totals are the bytes of files whose rows fit, and the sum of all these bytes.
func totals(rows []api.FileRow) (total, whole int) {
	for _, row := range rows {
		total += row.Size
		whole, _ = digest.CRCJoin(whole, row.Crc, row.Size)
	}
	return total, whole
}

// headTable is what stands ahead of the rows. Their count is no field of a manifest, so it is kept apart.
func headTable(m *api.Manifest, count *int) []field {
	return []field{
		{"store ", aStore, 1, api.MaxName, func() value { return value{text: m.Store} }, func(v value) { m.Store = v.text }, "\n"},
		{"version ", aNumber, 1, api.MaxVersion, func() value { return value{number: m.Version} }, func(v value) { m.Version = v.number }, "\n"},
		{"node ", aNumber, 0, api.MaxNodes - 1, func() value { return value{number: m.Node} }, func(v value) { m.Node = v.number }, "\n"},
		{"files ", aNumber, 0, mostRows, func() value { return value{number: *count} }, func(v value) { *count = v.number }, "\n"},
	}
}

func rowTable(row *api.FileRow) []field {
	return []field{
		{"file ", aName, 1, api.MaxName, func() value { return value{text: row.Name} }, func(v value) { row.Name = v.text }, " "},
		{"", aNumber, 0, api.MaxDisk, func() value { return value{number: row.Size} }, func(v value) { row.Size = v.number }, " "},
		{"", aSum, 0, greatestSum, func() value { return value{number: row.Crc} }, func(v value) { row.Crc = v.number }, " "},
		{"", anMD5, md5Bytes, md5Bytes, func() value { return value{text: row.Md5} }, func(v value) { row.Md5 = v.text }, "\n"},
	}
}

func tailTable(m *api.Manifest) []field {
	return []field{
		{"total ", aNumber, 0, api.MaxNumber, func() value { return value{number: m.Total} }, func(v value) { m.Total = v.number }, "\n"},
		{"whole ", aSum, 0, greatestSum, func() value { return value{number: m.Whole} }, func(v value) { m.Whole = v.number }, "\n"},
	}
}
