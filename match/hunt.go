package match

import (
	"wainscot/api"
)

// hunt looks for nodes that a selector's parts pick, from the last part to the first.
type hunt struct {
	nodes []api.Node
	parts []api.Part
	// tried has what was tried in vain: however many ways lead there, it is tried once.
	tried map[attempt]struct{}
}

// attempt is a node that the parts up to one are tried at.
type attempt struct {
	part, node int
}

// picks tells whether the parts up to part k pick a node, as a selector.
func (h *hunt) picks(i, k int) bool {
	if !Part(h.nodes, i, h.parts[k]) {
		return false
	}
	if k == 0 {
		return true
	}
	for near := range around(h.nodes, i, h.parts[k].Comb) {
		next := attempt{part: k - 1, node: near}
		if _, known := h.tried[next]; known {
			// All that comes behind it was tried with it.
			return false
		}
		if h.picks(near, k-1) {
			return true
		}
		h.tried[next] = struct{}{}
	}
	return false
}
