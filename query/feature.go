package query

import (
	"slices"

	"wainscot/api"
	"wainscot/tokens"
)

const (
	// noOp is the Op of no comparison.
	noOp = 0
	// px is the unit of lengths.
	px = "px"
	// one is the number 1, in thousandths.
	one = 1000
)

// asker reads a feature: it stands in the tokens between its brackets.
type asker struct {
	tokens.Cursor
}

// feature answers the node of a feature, from the trimmed piece between its brackets.
func feature(piece []api.Token) (api.QNode, bool) {
	// How values are read hangs on the feature: its word is the first Ident, whatever stands ahead of it.
	at := slices.IndexFunc(piece, func(t api.Token) bool { return t.Kind == api.Ident })
	if at < 0 {
		return api.QNode{}, false
	}
	n := api.QNode{Kind: api.Feature}
	a := asker{tokens.Cursor{Left: piece}}
	var colon int
	n.Feature, colon = asked(piece[at].Text)
	value := a.valueOf(n.Feature)
	ok := n.Feature != 0
	if at == 0 {
		ok = ok && a.wordFirst(&n, colon, value)
	} else {
		ok = ok && a.valueFirst(&n, value)
	}
	return n, ok && len(a.Left) == 0
}

// asked answers the feature of a word, and what a Colon behind that says; 0, if it is none.
func asked(s string) (int, int) {
	for f := api.Width; f <= api.Orientation; f++ {
		switch s {
		case word(f):
			return f, api.Equals
		case "min-" + word(f):
			return f, api.AtLeast
		case "max-" + word(f):
			return f, api.AtMost
		}
	}
	return 0, noOp
}

// valueOf answers the method that reads a feature's values.
func (a *asker) valueOf(feature int) func() (api.Bound, bool) {
	switch feature {
	case api.AspectRatio:
		return a.ratio
	case api.Orientation:
		return a.way
	}
	return a.length
}

// length reads a length.
func (a *asker) length() (api.Bound, bool) {
	if t, some := a.Take(api.Num); some {
		return api.Bound{}, t.N == 0
	}
	t, some := a.Take(api.Dim)
	return api.Bound{N: t.N}, some && t.Text == px
}

// ratio reads a ratio, of a number to 1, if it is told alone.
func (a *asker) ratio() (api.Bound, bool) {
	n, some := a.Take(api.Num)
	b := api.Bound{N: n.N, D: one}
	if d, both := a.Over(); both {
		b.D = d.N
	}
	return b, some
}

// way reads an orientation.
func (a *asker) way() (api.Bound, bool) {
	for n := api.Portrait; n <= api.Landscape; n++ {
		if a.Pass(api.Ident, way(n)) {
			return api.Bound{N: n}, true
		}
	}
	return api.Bound{}, false
}

// wordFirst reads a feature's word, and what stands behind that, if anything does: a Colon says what it was told.
func (a *asker) wordFirst(n *api.QNode, colon int, value func() (api.Bound, bool)) bool {
	a.Take(api.Ident)
	a.Spaces()
	if len(a.Left) == 0 {
		return colon == api.Equals
	}
	var ok bool
	if _, is := a.Take(api.Colon); !is {
		n.Hi, ok = a.compared(value)
		return ok && colon == api.Equals && n.Feature != api.Orientation
	}
	a.Spaces()
	n.Hi, ok = value()
	n.Hi.Op = colon
	return ok
}

// valueFirst reads a value held against a feature's word, and what stands behind that, if anything does.
func (a *asker) valueFirst(n *api.QNode, value func() (api.Bound, bool)) bool {
	ahead, ok := value()
	a.Spaces()
	ahead.Op = a.op()
	a.Spaces()
	if !ok || ahead.Op == noOp || !a.Pass(api.Ident, word(n.Feature)) {
		return false
	}
	a.Spaces()
	if len(a.Left) == 0 {
		ahead.Op = api.Less + api.Greater - ahead.Op
		n.Hi = ahead
		return true
	}
	n.Lo = ahead
	n.Hi, ok = a.compared(value)
	return ok
}

// compared reads a comparison, and the value behind it.
func (a *asker) compared(value func() (api.Bound, bool)) (api.Bound, bool) {
	op := a.op()
	a.Spaces()
	b, ok := value()
	b.Op = op
	return b, ok && op != noOp
}

// op reads a comparison, and answers noOp, if there is none.
func (a *asker) op() int {
	switch {
	case a.Pass(api.Delim, "<"):
		return a.orEqual(api.Less, api.AtMost)
	case a.Pass(api.Delim, ">"):
		return a.orEqual(api.Greater, api.AtLeast)
	}
	return a.orEqual(noOp, api.Equals)
}

// orEqual answers the first Op, or, where a = comes next, the second one.
func (a *asker) orEqual(strict, loose int) int {
	if a.Pass(api.Delim, "=") {
		return loose
	}
	return strict
}
