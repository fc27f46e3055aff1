package words

import (
	"wainscot/fix"
)

// run is texts beside one another: how many there are, and what their bytes advance, with the blanks between.
type run struct {
	texts    int
	advances int
}

// with answers the run with one more text behind it.
func (r run) with(s string) run {
	if r.texts > 0 {
		r.advance(blank)
	}
	for i := range len(s) {
		r.advance(s[i])
	}
	r.texts++
	return r
}

// advance goes on by a byte. No byte goes back, so held one by one they make what they make together.
func (r *run) advance(c byte) {
	r.advances = fix.Add(r.advances, Advance(c))
}

// width answers how wide a run is, with an em.
func (r run) width(font int) int {
	return fix.Part(font, r.advances, thousand)
}
