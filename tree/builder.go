package tree

import (
	"wainscot/api"
	"wainscot/kin"
)

// Builder puts a tree together, node by node.
type Builder struct {
	nodes []api.Node
	// open has the numbers of the elements that are open, each in the one ahead of it.
	open []int
}

// New answers a builder with nothing.
func New() *Builder {
	return new(Builder)
}

// Open puts an element into the last one that is open, and opens it.
func (b *Builder) Open(n api.Node) api.Errno {
	if b == nil {
		return api.ErrNil
	}
	closed := len(b.nodes) > 0 && len(b.open) == 0
	if closed || !kin.Element(n) || !right(n) {
		return api.ErrTree
	}
	if e := b.put(n); e != api.OK {
		return e
	}
	b.open = append(b.open, len(b.nodes)-1)
	return api.OK
}

// Words puts words into the last element that is open.
func (b *Builder) Words(s string) api.Errno {
	if b == nil {
		return api.ErrNil
	}
	if len(b.open) == 0 || !Text(s) {
		return api.ErrTree
	}
	return b.put(api.Node{Text: s})
}

// put puts a copy of a right node, if there is room for it.
func (b *Builder) put(n api.Node) api.Errno {
	if len(b.nodes) >= api.MaxNodes {
		return api.ErrNodes
	}
	if len(b.open) >= api.MaxDepth {
		return api.ErrDepth
	}
	n = clone(n)
	n.Parent = kin.None
	if depth := len(b.open); depth > 0 {
		n.Parent = b.open[depth-1]
	}
	b.nodes = append(b.nodes, n)
	return api.OK
}

// Close closes the last element that is open.
func (b *Builder) Close() api.Errno {
	if b == nil {
		return api.ErrNil
	}
	if len(b.open) == 0 {
		return api.ErrTree
	}
	b.open = b.open[:len(b.open)-1]
	return api.OK
}

// Done answers the tree, if all is closed.
func (b *Builder) Done() ([]api.Node, api.Errno) {
	if b == nil {
		return nil, api.ErrNil
	}
	if len(b.open) > 0 || len(b.nodes) == 0 {
		return nil, api.ErrTree
	}
	return moved(b.nodes, func(p int) int { return p }), api.OK
}
