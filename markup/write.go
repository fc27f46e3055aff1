package markup

import (
	"strings"

	"wainscot/api"
	"wainscot/tree"
)

// writer writes a tree's nodes.
type writer struct {
	strings.Builder
	nodes []api.Node
}

// node writes a node with all that stands beneath it.
func (w *writer) node(i int) {
	n := w.nodes[i]
	if n.Tag == "" {
		w.quoted(n.Text)
		return
	}
	w.head(n)
	kids := tree.Kids(w.nodes, i)
	if len(kids) == 0 {
		return
	}
	ahead := byte('{')
	for _, k := range kids {
		w.WriteByte(ahead)
		w.node(k)
		ahead = ' '
	}
	w.WriteByte('}')
}

// head writes an element without what stands beneath it.
func (w *writer) head(n api.Node) {
	w.WriteString(n.Tag)
	if n.ID != "" {
		w.marked('#', n.ID)
	}
	for _, c := range n.Classes {
		w.marked('.', c)
	}
	for _, a := range n.Attrs {
		w.marked('[', a.Name)
		w.WriteByte('=')
		w.quoted(a.Value)
		w.WriteByte(']')
	}
}

// marked writes a name behind its sign.
func (w *writer) marked(sign byte, name string) {
	w.WriteByte(sign)
	w.WriteString(name)
}

// quoted writes words in quotes.
func (w *writer) quoted(s string) {
	w.marked('"', s)
	w.WriteByte('"')
}
