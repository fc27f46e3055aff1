// Package kin tells elements from words, whose parent a node is, and what it stands beneath: what the layers that go through lists of nodes have in common.
package kin

import (
	"iter"

	"wainscot/api"
)

// None is the Parent of the first node of a tree, and of all that have no parent.
const None = -1

// Has tells whether there is a node i.
func Has(l []api.Node, i int) bool {
	return i >= 0 && i < len(l)
}

// Element tells whether a node is an element, not words.
func Element(n api.Node) bool {
	return n.Tag != ""
}

// Parent answers the number of a node's parent, or None. It is below the node's own, so whoever goes up comes to an end.
func Parent(l []api.Node, i int) int {
	if p := l[i].Parent; p >= 0 && p < i {
		return p
	}
	return None
}

// Ups yields all that a node stands beneath, the nearest first; nothing, if there is no such node.
func Ups(l []api.Node, i int) iter.Seq[int] {
	return func(yield func(int) bool) {
		if !Has(l, i) {
			return
		}
		for up := Parent(l, i); up != None && yield(up); {
			up = Parent(l, up)
		}
	}
}
