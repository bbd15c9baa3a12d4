package mail

import "granary/api"

// link is two addresses, the lower one first: so it is the same, from whichever side one looks.
type link struct {
	low, high int
}

func between(a, b int) link { return link{low: min(a, b), high: max(a, b)} }

// isAddress tells whether something can be sent from there, or there.
func isAddress(n int) bool { return n >= 0 && n <= api.AddrExport }

// Cut cuts the link between two addresses, both ways.
func (m *Mail) Cut(a, b int) api.Errno {
	if errno := m.check(a, b); errno != api.OK {
		return errno
	}
	m.cut[between(a, b)] = struct{}{}
	return api.OK
}

// Heal makes it whole again.
func (m *Mail) Heal(a, b int) api.Errno {
	if errno := m.check(a, b); errno != api.OK {
		return errno
	}
	delete(m.cut, between(a, b))
	return api.OK
}

// check tells why there is no link between a and b, if so.
func (m *Mail) check(a, b int) api.Errno {
	if m.none() {
		return api.ErrNil
	}
	if !isAddress(a) || !isAddress(b) || a == b {
		return api.ErrArg
	}
	return api.OK
}

// isCut tells whether nothing comes through between two addresses. From one to itself there is no link, and none ever comes into the map.
func (m *Mail) isCut(a, b int) bool {
	_, cut := m.cut[between(a, b)]
	return cut
}
