package strut

import (
	"wainscot/fix"
)

// stacker makes a stack, part by part.
type stacker struct {
	Stack
	// top and bottom tell whether the box is open there.
	top, bottom bool
	// stands tells whether a part stands already that is not Through.
	stands bool
	// y is where the last one of these ends, loose the strut of all margins behind it.
	y     int
	loose Strut
}

// stack puts one more part, and answers where it stands.
func (k *stacker) stack(p Part) int {
	k.loose = Join(k.loose, p.Top)
	at := k.place()
	if p.Through {
		// A strut that is joined already changes nothing.
		if p.Bottom != p.Top {
			k.loose = Join(k.loose, p.Bottom)
		}
		return at
	}
	if k.escapes() {
		k.Head = k.loose
	}
	k.stands = true
	k.y, k.loose = fix.Add(at, p.H), hold(p.Bottom)
	return at
}

// escapes tells whether the strut leaves the box through its top, and so takes no room in it.
func (k *stacker) escapes() bool {
	return k.top && !k.stands
}

// place answers where a part begins that stands behind the strut.
func (k *stacker) place() int {
	if k.escapes() {
		return k.y
	}
	return fix.Add(k.y, Worth(k.loose))
}

// finish puts what is left of the strut where it belongs.
func (k *stacker) finish() {
	switch {
	case k.escapes():
		k.Head, k.Through = k.loose, k.bottom
	case k.bottom:
		k.Foot, k.H = k.loose, max(0, k.y)
	default:
		k.H = max(0, k.place())
	}
}
