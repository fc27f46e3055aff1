package query

import (
	"wainscot/api"
	"wainscot/tokens"
)

// writer writes a query: the nodes that are left, and the tokens of those ahead of them.
type writer struct {
	left []api.QNode
	done []api.Token
}

// Print answers a query's tokens.
func Print(q api.Query) ([]api.Token, api.Errno) {
	if !Right(q) {
		return nil, api.ErrQuery
	}
	w := writer{left: q.Nodes}
	if q.Name != "" {
		w.put(tokens.Ident(q.Name), tokens.Sign(api.Space))
	}
	w.node()
	return w.done, api.OK
}

// put puts tokens behind the others.
func (w *writer) put(l ...api.Token) {
	w.done = append(w.done, l...)
}

// node writes the next node with all that it has.
func (w *writer) node() {
	n := w.left[0]
	w.left = w.left[1:]
	switch n.Kind {
	case api.Feature:
		w.feature(n)
	case api.Not:
		w.put(tokens.Ident("not"), tokens.Sign(api.Space))
		w.term()
	default:
		for i := range n.Count {
			if i > 0 {
				w.put(tokens.Sign(api.Space), tokens.Ident(joint(n.Kind)), tokens.Sign(api.Space))
			}
			w.term()
		}
	}
}

// term writes the next node in brackets; a feature has some of its own.
func (w *writer) term() {
	if w.left[0].Kind == api.Feature {
		w.node()
		return
	}
	w.put(tokens.Sign(api.Open))
	w.node()
	w.put(tokens.Sign(api.Close))
}

// feature writes a feature's node.
func (w *writer) feature(n api.QNode) {
	space := tokens.Sign(api.Space)
	w.put(tokens.Sign(api.Open))
	if there(n.Lo) {
		w.value(n.Feature, n.Lo)
		w.put(space)
		w.op(n.Lo.Op)
		w.put(space)
	}
	w.put(tokens.Ident(word(n.Feature)))
	switch {
	case !there(n.Hi):
	case n.Feature == api.Orientation:
		w.put(tokens.Sign(api.Colon), space, tokens.Ident(way(n.Hi.N)))
	default:
		w.put(space)
		w.op(n.Hi.Op)
		w.put(space)
		w.value(n.Feature, n.Hi)
	}
	w.put(tokens.Sign(api.Close))
}

// op writes a comparison.
func (w *writer) op(op int) {
	switch op {
	case api.Less, api.AtMost:
		w.put(tokens.Delim("<"))
	case api.AtLeast, api.Greater:
		w.put(tokens.Delim(">"))
	}
	if op >= api.AtMost && op <= api.AtLeast {
		w.put(tokens.Delim("="))
	}
}

// value writes a bound's length or ratio.
func (w *writer) value(feature int, b api.Bound) {
	if feature != api.AspectRatio {
		w.put(api.Token{Kind: api.Dim, Text: px, N: b.N})
		return
	}
	w.put(tokens.Ratio(b.N, b.D)...)
}
