package lay

import (
	"wainscot/api"
	"wainscot/axis"
	"wainscot/intrinsic"
	"wainscot/kin"
	"wainscot/sizing"
	"wainscot/words"
)

// walker lays out a page.
type walker struct {
	nodes []api.Node
	// styles are asked anew each time, since who seals may change those beneath a holder.
	styles []api.Style
	// boxes have no X and Y until all is laid out: how far each one begins from its parent's box, places tell.
	boxes  []api.Box
	places []complex128
	seal   func(i, w, h int)
	frozen func(i, n int)
}

// first lays out the first node in the window.
func (k *walker) first(v api.View) {
	c := intrinsic.Case(k.nodes, k.styles, 0, v.W, v.H)
	b := boxOf(0, c, sizing.Wide(c), true)
	k.layOut(b)
	left, _ := sizing.Sides(c, b.w)
	k.places[0] = axis.Of(left, b.frame.Margin[api.Top])
}

// layOut lays out an element, with all beneath it.
func (k *walker) layOut(b *box) {
	switch {
	case b.style.Display != api.Flex:
		k.fill(b, k.block)
	case upright(b.style.Dir):
		k.fill(b, k.column)
	default:
		k.fill(b, k.row)
	}
}

// upright tells whether a way is that of a column.
func upright(way int) bool {
	return way == axis.Column || way == axis.ColumnBack
}

// fill seals an element that holds, and shows it; how its kids are laid out, it is told.
func (k *walker) fill(b *box, kids func(b *box)) {
	b.base = b.basis()
	switch b.style.Type {
	case api.InlineBox:
		k.seal(b.node, b.room, 0)
	case api.SizeBox:
		k.seal(b.node, b.room, b.base)
	}
	kids(b)
	k.boxes[b.node] = api.Box{Shown: true, W: b.w, H: b.h}
}

// write breaks an element's words into lines of a width, shows them, and answers how high they are.
func (k *walker) write(b *box, i, width int) int {
	em := b.em()
	lines := words.Break(k.nodes[i].Text, em, width)
	widest := 0
	for _, n := range lines {
		widest = max(widest, n.W)
	}
	tall := words.Tall(len(lines), em, b.style.Line)
	k.boxes[i] = api.Box{Shown: true, W: widest, H: tall, Lines: len(lines)}
	return tall
}

// placed answers all boxes, each with its place on the page. Parents stand ahead of their kids, so theirs is known already.
func (k *walker) placed() []api.Box {
	for i := range k.boxes {
		if !k.boxes[i].Shown {
			continue
		}
		if up := kin.Parent(k.nodes, i); up != kin.None {
			k.places[i] = axis.Plus(k.places[up], k.places[i])
		}
		k.boxes[i].X, k.boxes[i].Y = axis.X(k.places[i]), axis.Y(k.places[i])
	}
	return k.boxes
}
