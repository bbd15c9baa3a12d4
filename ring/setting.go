package ring

import "granary/api"

// setting is a number of a definition: its word in the text, where it stands in the cluster, the least and the greatest that it may be.
type setting struct {
	word            string
	field           *int
	least, greatest int
}

const gigabyte = 1 << 30

// settings are all of a cluster's, in the order in which Print writes them. What is checked, written and read all goes by this one table.
func settings(c *api.Cluster) []setting {
	return []setting{
		{"replicas", &c.Replicas, 1, 16},
		{"width", &c.Width, 1, 16},
		{"chunks", &c.Chunks, 1, 16},
		{"retain", &c.Retain, 1, 8},
		{"block", &c.Block, 1, 4096},
		{"rate", &c.Rate, 1, 65536},
		{"per", &c.Per, 1, 1024},
		{"burst", &c.Burst, 1, 65536},
		{"tries", &c.Tries, 1, 64},
		{"base", &c.Base, 1, 1024},
		{"most", &c.Most, 1, 1024},
		{"quota", &c.Quota, 1, gigabyte},
		{"room", &c.Room, 1, gigabyte},
		{"depot", &c.Depot, 1, gigabyte},
		{"resend", &c.Resend, 1, 1024},
		{"limit", &c.Limit, 1, 64},
		{"patience", &c.Patience, 1, 65536},
		{"getwait", &c.GetWait, 1, 1024},
		{"strikes", &c.Strikes, 1, 64},
		{"ban", &c.Ban, 1, 1024},
		{"home", &c.Home, 0, 7},
	}
}

// isSetting tells whether one of them has this word.
func isSetting(word string) bool {
	for _, s := range settings(&api.Cluster{}) {
		if s.word == word {
			return true
		}
	}
	return false
}
