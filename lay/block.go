package lay

import (
	"wainscot/api"
	"wainscot/axis"
	"wainscot/intrinsic"
	"wainscot/kin"
	"wainscot/sizing"
	"wainscot/strut"
)

// block lays out kids one beneath the other.
func (k *walker) block(b *box) {
	kids := intrinsic.Kids(k.nodes, k.styles, b.node)
	parts := make([]strut.Part, len(kids))
	for n, i := range kids {
		parts[n] = k.part(b, i)
	}
	b.out = strut.Put(parts, b.top(), b.bottom())
	for n, i := range kids {
		at := axis.Plus(k.places[i], axis.Of(0, b.out.At[n]))
		k.places[i] = axis.Plus(b.ahead(), at)
	}
	b.finish(b.out.H)
}

// part lays out a kid of a block, and answers what is stacked. Its place is that from the content's left: how far down it stands is not known yet.
func (k *walker) part(b *box, i int) strut.Part {
	if !kin.Element(k.nodes[i]) {
		return strut.Part{H: k.write(b, i, b.room)}
	}
	c := intrinsic.Case(k.nodes, k.styles, i, b.room, b.base)
	x := boxOf(i, c, sizing.Wide(c), false)
	k.layOut(x)
	left, _ := sizing.Sides(c, x.w)
	k.places[i] = axis.Of(left, 0)
	return strut.Part{
		Top:     strut.Join(strut.Of(x.frame.Margin[api.Top]), x.out.Head),
		Bottom:  strut.Join(strut.Of(x.frame.Margin[api.Bottom]), x.out.Foot),
		H:       x.h,
		Through: x.out.Through,
	}
}
