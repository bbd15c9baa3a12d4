package audit

import (
	"slices"

	"granary/api"
)

// report is that of the audit that ends now.
func (a *Audit) report() api.Audited {
	r := api.Audited{Job: a.number, Version: a.version, Outcome: api.AuditAlike, Differ: a.differing(), Missing: a.silent()}
	switch {
	case len(r.Differ) > 0:
		r.Outcome = api.AuditUnlike
	case len(r.Missing) > 0:
		r.Outcome = api.AuditOpen
	}
	return r
}

// differing are the partitions of which two replicas differ, rising. Where two do, every one differs from some other, so it makes no difference which is looked at first.
func (a *Audit) differing() []int {
	var parts []int
next:
	for slot, one := range a.told {
		if slices.Contains(parts, slot.Part) {
			continue
		}
		for replica := range a.replicas {
			other, ok := a.told[api.Slot{Part: slot.Part, Replica: replica}]
			if ok && other != one {
				parts = append(parts, slot.Part)
				continue next
			}
		}
	}
	slices.Sort(parts)
	return parts
}

// silent are the nodes that are missing, rising.
func (a *Audit) silent() []int {
	var nodes []int
	for node, h := range a.holders {
		if h.state == missing {
			nodes = append(nodes, node)
		}
	}
	return nodes
}
