package granary

import (
	"granary/api"
	"granary/builder"
	"granary/digest"
)

// block is what comes of a question to the repository.
type block struct {
	code api.Errno
	data string
	sum  int
}

// manifestName is the file that is handed out whole.
const manifestName = "manifest"

// fetch asks the repository for what a node wants, and lets the fault befall it on its way.
func (m *Machine) fetch(node int, want api.Want, f api.Fault) block {
	if f.Kind == api.FaultLost {
		return block{code: api.ErrLost}
	}
	data, e := m.read(node, want)
	if e != api.OK {
		return block{code: e}
	}
	return spoil(block{data: data, sum: digest.CRC(data)}, f)
}

func (m *Machine) read(node int, want api.Want) (string, api.Errno) {
	if want.File == manifestName {
		return builder.Manifest(m.depot, want.Version, node)
	}
	return builder.Block(m.depot, want.Version, node, want.File, want.At, want.Size)
}

// spoil does a fault to a block that comes. Only a forged one gets a sum that fits it.
func spoil(b block, f api.Fault) block {
	switch f.Kind {
	case api.FaultTrim:
		b.data = b.data[:min(max(f.At, 0), len(b.data))]
	case api.FaultFlip:
		b.data = flip(b.data, f)
	case api.FaultForge:
		b.data = flip(b.data, f)
		b.sum = digest.CRC(b.data)
	}
	return b
}

// flip turns bits of one byte, where the fault's place is one of the data.
func flip(data string, f api.Fault) string {
	if f.At < 0 || f.At >= len(data) {
		return data
	}
	spoilt := []byte(data)
	spoilt[f.At] ^= byte(f.Mask)
	return string(spoilt)
}
