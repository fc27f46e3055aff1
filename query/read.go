package query

import (
	"slices"

	"wainscot/api"
	"wainscot/syntax"
	"wainscot/tokens"
)

// lone is the kind of a condition of which one term was read, or none, and nothing that joins it to another one.
const lone = 0

// condition is one that is being read: the place of its first node, and Not, And, Or or lone.
type condition struct {
	at   int
	kind int
}

// reader reads a query: it stands in its tokens, and has the nodes that were read.
// The conditions that are not ended are kept in a list, the outermost first, so that no depth of brackets is too much.
type reader struct {
	tokens.Cursor
	nodes  []api.QNode
	around []condition
}

// Parse answers the query of a list's tokens.
func Parse(l []api.Token) (api.Query, api.Errno) {
	r := reader{Cursor: tokens.Cursor{Left: syntax.Trim(l)}}
	q := api.Query{Name: r.name()}
	read := r.conditions()
	q.Nodes = r.nodes
	if !read || !Right(q) {
		return api.Query{}, api.ErrQuery
	}
	return q, api.OK
}

// name reads a query's name, if there is one. An Ident without a text stands in its place, but is none.
func (r *reader) name() string {
	t := r.Next()
	if t.Kind != api.Ident || t.Text != "" && !named(t.Text) {
		return ""
	}
	r.Take(api.Ident)
	r.Spaces()
	return t.Text
}

// conditions reads a condition, and all within it, up to the end.
func (r *reader) conditions() bool {
	for ok := r.begin(r.not()) && r.term(); ok; ok = r.joint() && r.term() {
		r.closings()
		if len(r.Left) == 0 {
			return len(r.around) == 1
		}
	}
	return false
}

// not passes the not that a condition may begin with, and tells whether there was one.
func (r *reader) not() bool {
	return r.Pass(api.Ident, "not")
}

// begin begins a condition, behind its not, if it is negated.
func (r *reader) begin(negated bool) bool {
	c := condition{at: len(r.nodes)}
	if negated {
		c.kind = api.Not
	}
	r.around = append(r.around, c)
	r.Spaces()
	return !negated || r.put(c.at, api.QNode{Kind: api.Not, Count: 1})
}

// put puts a node at a place, unless there are too many.
func (r *reader) put(at int, n api.QNode) bool {
	if len(r.nodes) == api.MaxQuery {
		return false
	}
	r.nodes = slices.Insert(r.nodes, at, n)
	return true
}

// term reads a term from its beginning to behind its first feature. The conditions that its brackets open go on there.
func (r *reader) term() bool {
	for {
		if _, some := r.Take(api.Open); !some {
			return false
		}
		r.Spaces()
		negated := r.not()
		if !negated && r.Next().Kind != api.Open {
			return r.feature()
		}
		if !r.begin(negated) {
			return false
		}
	}
}

// feature reads a feature, and the closing of its brackets.
func (r *reader) feature() bool {
	closing := func(t api.Token) bool { return t.Kind == api.Close }
	end := slices.IndexFunc(r.Left, closing)
	if end < 0 {
		return false
	}
	n, ok := feature(syntax.Trim(r.Left[:end]))
	r.Left = r.Left[end+1:]
	return ok && r.put(len(r.nodes), n)
}

// closings passes the brackets that are closed behind a feature: what stood in them is now a term of what is around.
func (r *reader) closings() {
	r.Spaces()
	for len(r.around) > 1 {
		if _, closed := r.Take(api.Close); !closed {
			return
		}
		r.around = r.around[:len(r.around)-1]
		r.Spaces()
	}
}

// joint reads the word between two terms of a condition. Which word it is only the first one tells: its node is put ahead of what was read.
func (r *reader) joint() bool {
	c := &r.around[len(r.around)-1]
	kind := r.jointKind()
	if kind == lone || c.kind != lone && c.kind != kind {
		return false
	}
	if c.kind == lone {
		c.kind = kind
		if !r.put(c.at, api.QNode{Kind: kind, Count: 1}) {
			return false
		}
	}
	r.nodes[c.at].Count++
	r.Spaces()
	return true
}

// jointKind passes an and or an or, and answers And or Or; lone, if there is neither.
func (r *reader) jointKind() int {
	for _, kind := range [2]int{api.And, api.Or} {
		if r.Pass(api.Ident, joint(kind)) {
			return kind
		}
	}
	return lone
}
