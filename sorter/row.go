package sorter

import (
	"cmp"

	"granary/api"
	"granary/plain"
)

const (
	seqBytes   = 8
	hashBytes  = 2 // the length of a hash
	keyBytes   = 2 // the length of a key
	valueBytes = 4 // the length of a value
	headBytes  = seqBytes + hashBytes + keyBytes + valueBytes

	mostHash = 32
)

// isRow tells whether a row may be made of these.
func isRow(hash, key, value string) bool {
	return len(hash) <= mostHash && len(key) <= api.MaxKey && len(value) <= api.MaxValue
}

// weigh is a row's weight, which is also how many bytes it has in a run.
func weigh(row api.Row) int {
	return headBytes + len(row.Hash) + len(row.Key) + len(row.Value)
}

// order is that of the rows. No two have the same Seq, so it leaves nothing open.
func order(a, b api.Row) int {
	return cmp.Or(cmp.Compare(a.Hash, b.Hash), cmp.Compare(a.Key, b.Key), cmp.Compare(a.Seq, b.Seq))
}

// write is a row's bytes.
func write(row api.Row) string {
	out := make([]byte, 0, weigh(row))
	out = plain.Put(out, row.Seq, seqBytes)
	out = plain.Put(out, len(row.Hash), hashBytes)
	out = plain.Put(out, len(row.Key), keyBytes)
	out = plain.Put(out, len(row.Value), valueBytes)
	out = append(out, row.Hash...)
	out = append(out, row.Key...)
	return string(append(out, row.Value...))
}
