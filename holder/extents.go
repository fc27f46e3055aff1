package holder

import (
	"wainscot/api"
)

// extents are what is known of nodes, one of each in order.
type extents []api.Extent

// kind answers the Type of a node's extent. Of a node beyond the end nothing is known.
func (x extents) kind(i int) int {
	if i >= len(x) {
		return api.Normal
	}
	return x[i].Type
}

// wide tells whether a node holds what stands beneath it, along the line at least.
func (x extents) wide(i int) bool {
	return x.kind(i) == api.InlineBox || x.whole(i)
}

// whole tells whether a node holds what stands beneath it along the line and down the page.
func (x extents) whole(i int) bool {
	return x.kind(i) == api.SizeBox
}

// called answers who tells whether a node is a holder of a name; of an empty one each is.
func (x extents) called(name string) func(i int) bool {
	if name == "" {
		return x.wide
	}
	return func(i int) bool { return x.wide(i) && x[i].Name == name }
}
