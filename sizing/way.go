package sizing

import (
	"wainscot/api"
	"wainscot/fix"
)

// way is one of the two in which a box is sized.
type way struct {
	// base is what percentages are of, worth how a size's worth is told of it.
	base  int
	worth func(z size, base int) (int, bool)
	// border tells whether sizes are the box's, around is what they leave out where they are its content's.
	border bool
	around int
}

// says answers a size's worth, as a box.
func (w way) says(z size) (int, bool) {
	n, some := w.worth(z, w.base)
	if !some {
		return 0, false
	}
	return w.asBox(n), true
}

// asBox answers a size as a box.
func (w way) asBox(n int) int {
	if w.border {
		return max(n, w.around)
	}
	return fix.Add(max(0, n), w.around)
}

// asSize answers a box as a size.
func (w way) asSize(n int) int {
	if w.border {
		return n
	}
	return max(0, fix.Sub(n, w.around))
}

// size is one that is worth something, or nothing.
type size api.Size

// ofAny answers a size's worth, of a base that may be below 0 as well.
func (z size) ofAny(base int) (int, bool) {
	switch z.Kind {
	case api.Fixed:
		return fix.Hold(z.N), true
	case api.Share:
		return fix.Percent(base, z.N), true
	}
	return 0, false
}

// ofKnown answers a size's worth, of a base that is not known where it is below 0.
func (z size) ofKnown(base int) (int, bool) {
	if z.Kind == api.Share && base < 0 {
		return 0, false
	}
	return z.ofAny(base)
}

// length answers a size's worth, of any base, 0, if it has none.
func (z size) length(base int) int {
	n, _ := z.ofAny(base)
	return n
}
