package truth

import (
	"cmp"

	"wainscot/api"
	"wainscot/fix"
)

// feature answers what a feature says of an extent whose sizes are held.
func feature(n api.QNode, e api.Extent) int {
	switch {
	case !known(n.Feature, e.Type):
		return api.Unknown
	case bounded(n, e):
		return api.True
	}
	return api.False
}

// known tells whether a feature is known of a type of container.
func known(feature, kind int) bool {
	if feature == api.Width || feature == api.InlineSize {
		return kind == api.InlineBox || kind == api.SizeBox
	}
	return kind == api.SizeBox
}

// bounded tells whether an extent is within a feature's bounds, or, without any, has what is asked for.
func bounded(n api.QNode, e api.Extent) bool {
	if !there(n.Hi) {
		return some(n.Feature, e)
	}
	size, bound := sides(n.Feature, n.Hi, e)
	holds := compares(size, n.Hi.Op, bound)
	if there(n.Lo) {
		size, bound = sides(n.Feature, n.Lo, e)
		holds = holds && compares(bound, n.Lo.Op, size)
	}
	return holds
}

// there tells whether there is a bound.
func there(b api.Bound) bool {
	return b != api.Bound{}
}

// some tells whether a feature is not 0: there is always an orientation.
func some(feature int, e api.Extent) bool {
	switch feature {
	case api.Width, api.InlineSize:
		return e.W != 0
	case api.Height, api.BlockSize:
		return e.H != 0
	case api.AspectRatio:
		return e.W != 0 && e.H != 0
	}
	return true
}

// sides answers both sides of a feature's comparison: the extent's, and the bound's. They have 64 bits, since an int may have 32: too few for a ratio's products.
func sides(feature int, b api.Bound, e api.Extent) (int64, int64) {
	w, h, n, d := int64(e.W), int64(e.H), int64(b.N), int64(b.D)
	switch feature {
	case api.Width, api.InlineSize:
		return w, int64(fix.Px(b.N))
	case api.Height, api.BlockSize:
		return h, int64(fix.Px(b.N))
	case api.AspectRatio:
		return w * d, n * h
	}
	if h >= w {
		return api.Portrait, n
	}
	return api.Landscape, n
}

// compares tells whether a is to b as an Op says.
func compares(a int64, op int, b int64) bool {
	way := cmp.Compare(a, b)
	switch op {
	case api.Greater:
		// Turned around, it is a Less.
		way = -way
		fallthrough
	case api.Less:
		return way < 0
	case api.AtLeast:
		way = -way
		fallthrough
	case api.AtMost:
		return way <= 0
	}
	return way == 0
}
