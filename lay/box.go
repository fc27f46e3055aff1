package lay

import (
	"wainscot/api"
	"wainscot/axis"
	"wainscot/fix"
	"wainscot/sizing"
	"wainscot/strut"
)

// unknown is what percentages of a height are of that nobody knows.
const unknown = -1

// box is an element that is being laid out.
type box struct {
	node  int
	of    sizing.Case
	style api.Style
	frame sizing.Frame
	w, h  int
	// room is how wide its content may be, base what its kids' percentages of heights are of.
	room, base int
	// apart tells whether margins stay in it; what came out of it is out.
	apart bool
	out   strut.Stack
}

// boxOf answers the box of a node with a case, of a width. That of a SizeBox has its height already, whatever stands in it.
func boxOf(node int, c sizing.Case, w int, apart bool) *box {
	b := &box{node: node, of: c, style: c.Style, frame: sizing.Of(c), w: w}
	across, _ := sizing.Around(c)
	b.room = max(0, fix.Sub(w, across))
	b.apart = apart || c.Style.Type == api.InlineBox || c.Style.Type == api.SizeBox || c.Style.Display == api.Flex
	if c.Style.Type == api.SizeBox {
		b.h = sizing.High(c, w, 0)
	}
	return b
}

// basis answers what kids' percentages of heights are of, or unknown.
func (b *box) basis() int {
	if b.style.Type == api.SizeBox {
		return b.inside()
	}
	h, given := sizing.Given(b.of)
	if !given {
		return unknown
	}
	return b.within(h)
}

// inside answers how high the box is for what stands in it.
func (b *box) inside() int {
	return b.within(b.h)
}

// within answers what a height leaves for what stands in the box.
func (b *box) within(h int) int {
	_, down := sizing.Around(b.of)
	return max(0, fix.Sub(h, down))
}

// finish gives the box its height, by its content's; that of a SizeBox stays.
func (b *box) finish(content int) {
	if b.style.Type != api.SizeBox {
		b.h = sizing.High(b.of, b.w, content)
	}
}

// ahead answers what is ahead of the content.
func (b *box) ahead() complex128 {
	return axis.Of(b.thick(api.Left), b.thick(api.Top))
}

// thick answers what is between the box's end and its content on a side.
func (b *box) thick(side int) int {
	return fix.Add(b.frame.Pad[side], b.frame.Edge[side])
}

// top tells whether margins come out of the box's top.
func (b *box) top() bool {
	return !b.apart && b.thick(api.Top) == 0
}

// bottom tells whether they come out of its bottom, which nothing may keep off its content's end.
func (b *box) bottom() bool {
	_, given := sizing.Given(b.of)
	return !b.apart && b.thick(api.Bottom) == 0 && !given && !ratio(b.style) && b.style.MinH.Kind == api.Auto
}

// em answers the em of words in the box.
func (b *box) em() int {
	return max(0, b.style.Font)
}

// ratio tells whether a style's ratio counts.
func ratio(s api.Style) bool {
	return s.RatioN > 0 && s.RatioD > 0
}
