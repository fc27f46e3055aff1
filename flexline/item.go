package flexline

import (
	"wainscot/fix"
)

// thousand is a factor of one.
const thousand = 1000

// hold answers an item whose numbers are held.
func (t Item) hold() Item {
	return Item{
		Base:   fix.Hold(t.Base),
		Least:  atLeast0(t.Least),
		Most:   fix.Hold(t.Most),
		Margin: fix.Hold(t.Margin),
		Inner:  atLeast0(t.Inner),
		Grow:   atLeast0(t.Grow),
		Shrink: atLeast0(t.Shrink),
	}
}

// atLeast0 answers a number that is held, 0 instead of one below 0.
func atLeast0(n int) int {
	return max(0, fix.Hold(n))
}

// clamp answers a length that the item may have: where Most and Least can't both be, Least counts.
func (t Item) clamp(n int) int {
	if t.Most >= 0 {
		n = min(n, t.Most)
	}
	return max(n, t.Least)
}

// wish answers the length to begin with, clamped.
func (t Item) wish() int {
	return t.clamp(t.Base)
}

// long tells whether the item begins longer than it may be, short whether it begins shorter.
func (t Item) long() bool  { return t.Base > t.wish() }
func (t Item) short() bool { return t.Base < t.wish() }

// grows answers the factor of a line that grows, which is the weight there too.
func (t Item) grows() int { return t.Grow }

// shrinks answers the factor of a line that shrinks.
func (t Item) shrinks() int { return t.Shrink }

// yields answers the weight of a line that shrinks.
func (t Item) yields() int { return fix.Part(t.Inner, t.Shrink, thousand) }
