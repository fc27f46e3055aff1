package lay

import (
	"wainscot/api"
	"wainscot/fix"
	"wainscot/flexline"
	"wainscot/sizing"
)

// none is a Most of flexline that there is not.
const none = -1

// item is a kid of a flex box.
type item struct {
	// Item is what flexline is told of it.
	flexline.Item
	node  int
	of    sizing.Case
	style api.Style
	// way is that by which it is put across.
	way int
	// main are its margins along the line, cross those across.
	main, cross margins
	// length and depth are its sizes along the line and across, begins and stands where it has its place there.
	length, depth, begins, stands int
}

// itemOf answers the item of a node with a case, in a box of a style.
func itemOf(node int, c sizing.Case, in api.Style) *item {
	t := &item{node: node, of: c, style: c.Style, way: in.Items}
	if t.style.Self > 0 {
		t.way = t.style.Self - 1
	}
	f := sizing.Of(c)
	t.main, t.cross = marginsOf(f, api.Left, api.Right), marginsOf(f, api.Top, api.Bottom)
	if upright(in.Dir) {
		t.main, t.cross = t.cross, t.main
	}
	return t
}

// inRow tells flexline of an item of a row.
func (t *item) inRow() {
	across, _ := sizing.Around(t.of)
	t.tell(t.wide(), max(t.narrow(), across), orNone(sizing.SaysW(t.of, t.style.MaxW)), across)
}

// inColumn tells flexline of an item of a column, of a height of its own.
func (t *item) inColumn(own int) {
	_, down := sizing.Around(t.of)
	if h, some := sizing.SaysH(t.of, t.style.Basis); some {
		own = h
	}
	least, _ := sizing.SaysH(t.of, t.style.MinH)
	t.tell(own, max(least, down), orNone(sizing.SaysH(t.of, t.style.MaxH)), down)
}

// tell tells flexline of an item that begins with a length, must stay between two others, and has so much around its content.
func (t *item) tell(base, least, most, around int) {
	t.Item = flexline.Item{
		Base:   base,
		Least:  least,
		Most:   most,
		Margin: t.main.both(),
		Inner:  max(0, fix.Sub(base, around)),
		Grow:   t.style.Grow,
		Shrink: t.style.Shrink,
	}
}

// orNone answers what a size says, or none, if that is nothing.
func orNone(n int, some bool) int {
	if !some {
		return none
	}
	return n
}

// wide answers the width with which an item of a row begins.
func (t *item) wide() int {
	z := t.style.Basis
	if silent(z) {
		z = t.style.W
	}
	if w, some := sizing.SaysW(t.of, z); some {
		return w
	}
	if t.turns() {
		free := t.of
		free.Style.W, free.Style.MinW, free.Style.MaxW = api.Size{}, api.Size{}, api.Size{}
		return sizing.Wide(free)
	}
	return max(0, t.of.Most)
}

// narrow answers the least width of an item of a row: its own content's, where none is told, but no more than is told as its width.
func (t *item) narrow() int {
	if w, some := sizing.SaysW(t.of, t.style.MinW); some {
		return w
	}
	w := max(0, t.of.Least)
	for _, z := range []api.Size{t.style.W, t.style.MaxW} {
		if most, some := sizing.SaysW(t.of, z); some {
			w = min(w, most)
		}
	}
	return w
}

// across answers the width of an item of a column: what does not stretch is no wider than its content.
func (t *item) across() int {
	c := t.of
	if silent(t.style.W) && (t.way != stretch || t.cross.any()) && !t.turns() {
		c.Style.W = api.Size{Kind: api.FitCont}
	}
	return sizing.Wide(c)
}

// stretches tells whether an item of a row is as high as its line.
func (t *item) stretches() bool {
	_, given := sizing.Given(t.of)
	return t.way == stretch && !given && !ratio(t.style) && !t.cross.any()
}

// turns tells whether a height is given that the ratio makes a width of.
func (t *item) turns() bool {
	_, given := sizing.Given(t.of)
	return given && ratio(t.style)
}

// alignIn gives an item of a row its last height in its line, and its place across.
func (t *item) alignIn(n *line) {
	if t.stretches() {
		t.depth = sizing.KeepH(t.of, fix.Sub(n.size, t.cross.both()))
	}
	t.stands = fix.Add(n.begins, t.cross.place(t.way, n.size, t.depth))
}

// silent tells whether a size leaves to others what it is about.
func silent(z api.Size) bool {
	return z.Kind == api.Auto || z.Kind == api.None
}
