package markup

import (
	"strings"

	"wainscot/api"
	"wainscot/scan"
	"wainscot/tree"
)

// fault is what reading a text panics with, if it is no tree's.
type fault struct {
	errno api.Errno
	at    int
}

// fail ends the reading of a text with a fault.
func fail(e api.Errno, at int) {
	panic(fault{errno: e, at: at})
}

// reader reads a tree: it stands at a place of the text, and has the nodes that were read, and the number of the element around.
type reader struct {
	text   string
	at     int
	nodes  []api.Node
	around int
}

// tree reads the whole text.
func (r *reader) tree() {
	r.blanks()
element:
	r.tag()
marks:
	switch r.next() {
	case '#':
		r.id()
		goto marks
	case '.':
		r.class()
		goto marks
	case '[':
		r.attr()
		goto marks
	}
	r.blanks()
	if r.next() != '{' {
		goto behind
	}
	r.open()
inside:
	r.blanks()
	switch r.next() {
	case '}':
		r.close()
		goto behind
	case '"':
		r.words()
		goto inside
	}
	goto element
behind:
	if r.around != none {
		goto inside
	}
	r.blanks()
	if r.at < len(r.text) {
		fail(api.ErrSyntax, r.at)
	}
}

// next answers the next byte; at the end it answers 0, which may stand nowhere.
func (r *reader) next() byte {
	if r.at == len(r.text) {
		return 0
	}
	return r.text[r.at]
}

// take passes a sign, which must come next.
func (r *reader) take(sign byte) {
	if r.next() != sign {
		fail(api.ErrSyntax, r.at)
	}
	r.at++
}

// blanks passes blanks.
func (r *reader) blanks() {
	r.at = scan.Pass(r.text, r.at, func(c byte) bool {
		return c == 9 || c == 10 || c == 13 || c == ' '
	})
}

// tag reads the tag that an element begins with, and puts the element.
func (r *reader) tag() {
	// A - may begin a name, whatever stands behind it.
	if !tree.Name(string([]byte{r.next(), 'a'})) {
		fail(api.ErrSyntax, r.at)
	}
	r.room()
	r.put(api.Node{Tag: r.name()})
}

// room fails, if there is no room for the node that begins here.
func (r *reader) room() {
	if len(r.nodes) == api.MaxNodes {
		fail(api.ErrNodes, r.at)
	}
	if tree.Depth(r.nodes, r.around) == api.MaxDepth {
		fail(api.ErrDepth, r.at)
	}
}

// put puts a node into the element around.
func (r *reader) put(n api.Node) {
	n.Parent = r.around
	r.nodes = append(r.nodes, n)
}

// last answers the node that was put last.
func (r *reader) last() *api.Node {
	return &r.nodes[len(r.nodes)-1]
}

// open goes into the element that was put last.
func (r *reader) open() {
	r.take('{')
	r.around = len(r.nodes) - 1
}

// close goes out of the element around.
func (r *reader) close() {
	r.take('}')
	r.around = r.nodes[r.around].Parent
}

// words reads words, and puts them.
func (r *reader) words() {
	r.room()
	r.put(api.Node{Text: r.quoted()})
}

// id reads an element's ID, unless it has one already.
func (r *reader) id() {
	n := r.last()
	if n.ID != "" {
		fail(api.ErrSyntax, r.at)
	}
	r.take('#')
	n.ID = r.name()
}

// class reads a further class of an element.
func (r *reader) class() {
	n := r.last()
	r.few(len(n.Classes))
	r.take('.')
	n.Classes = append(n.Classes, r.name())
}

// attr reads a further attribute of an element.
func (r *reader) attr() {
	n := r.last()
	r.few(len(n.Attrs))
	r.take('[')
	a := api.Attr{Name: r.name()}
	r.take('=')
	a.Value = r.quoted()
	r.take(']')
	n.Attrs = append(n.Attrs, a)
}

// few fails, if there are so many marks of a kind that no further one may be.
func (r *reader) few(marks int) {
	if marks == api.MaxMarks {
		fail(api.ErrSyntax, r.at)
	}
}

// name reads a name.
func (r *reader) name() string {
	from := r.at
	if !scan.Begins(r.text, from) {
		if r.next() == '-' {
			// What stands behind the - keeps it from beginning a name.
			r.at++
		}
		fail(api.ErrSyntax, r.at)
	}
	r.at = scan.Pass(r.text, from, scan.OfName)
	return checked(r.text[from:r.at], tree.Name, from)
}

// quoted reads words in their quotes.
func (r *reader) quoted() string {
	from := r.at
	r.take('"')
	r.at = scan.Pass(r.text, r.at, ofWords)
	words := r.text[from+1 : r.at]
	r.take('"')
	return checked(words, tree.Text, from)
}

// checked answers a copy of a piece of the text; it fails at a place, if the piece is not as it should.
func checked(piece string, should func(s string) bool, at int) string {
	if !should(piece) {
		fail(api.ErrSyntax, at)
	}
	return strings.Clone(piece)
}

// ofWords tells whether a byte may stand in words.
func ofWords(c byte) bool {
	return tree.Text(string([]byte{c}))
}
