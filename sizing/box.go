package sizing

import (
	"wainscot/api"
	"wainscot/fix"
)

// box is a case whose own widths are held, with the two ways in which it is sized.
type box struct {
	Case
	across, down way
}

// boxOf answers a case's box.
func boxOf(c Case) box {
	c.Least, c.Most = max(0, fix.Hold(c.Least)), max(0, fix.Hold(c.Most))
	w, h := Around(c)
	return box{
		Case:   c,
		across: way{base: c.Avail, worth: size.ofAny, border: c.Style.Border, around: w},
		down:   way{base: c.Base, worth: size.ofKnown, border: c.Style.Border, around: h},
	}
}

// saysW answers what a size says of the width.
func (b box) saysW(z size) (int, bool) {
	switch z.Kind {
	case api.MinCont:
		return b.Least, true
	case api.MaxCont:
		return b.Most, true
	case api.FitCont:
		return max(b.Least, min(b.Most, b.free())), true
	}
	return b.across.says(z)
}

// saysH answers what a size says of the height.
func (b box) saysH(z size) (int, bool) {
	return b.down.says(z)
}

// free answers the free width.
func (b box) free() int {
	f := Of(b.Case)
	left := fix.Sub(b.Avail, f.Margin[api.Left])
	return max(b.across.around, fix.Sub(left, f.Margin[api.Right]))
}

// keepW keeps a width.
func (b box) keepW(w int) int {
	return max(b.across.around, b.between(w, b.Style.MinW, b.Style.MaxW, box.saysW))
}

// keepH keeps a height.
func (b box) keepH(h int) int {
	return max(b.down.around, b.between(h, b.Style.MinH, b.Style.MaxH, box.saysH))
}

// between answers a length that is between what two sizes say: where both can't be, the least one counts.
func (b box) between(n int, least, most api.Size, says func(b box, z size) (int, bool)) int {
	n = fix.Hold(n)
	if hi, some := says(b, size(most)); some {
		n = min(n, hi)
	}
	if lo, some := says(b, size(least)); some {
		n = max(n, lo)
	}
	return n
}

// given answers the height that is given.
func (b box) given() (int, bool) {
	h, some := b.saysH(size(b.Style.H))
	if !some {
		return 0, false
	}
	return b.keepH(h), true
}

// wide answers the width in a line of its own, ahead of being kept.
func (b box) wide() int {
	if w, some := b.saysW(size(b.Style.W)); some {
		return w
	}
	if h, some := b.given(); some && b.ratio() {
		return b.across.asBox(fix.Part(b.down.asSize(h), b.Style.RatioN, b.Style.RatioD))
	}
	return b.free()
}

// high answers the height of a width, ahead of being kept.
func (b box) high(w, content int) int {
	if h, some := b.given(); some {
		return h
	}
	if b.ratio() {
		return b.down.asBox(fix.Part(b.across.asSize(w), b.Style.RatioD, b.Style.RatioN))
	}
	return fix.Add(max(0, content), b.down.around)
}

// ratio tells whether the ratio counts.
func (b box) ratio() bool {
	return b.Style.RatioN > 0 && b.Style.RatioD > 0
}
