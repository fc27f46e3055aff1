// Package fix reckons with lengths and numbers that stop at an end: layer 1, see shared/doc/01-fix.md.
package fix

import (
	"wainscot/api"
)

const (
	// thousand is how many parts a number's whole one has.
	thousand = 1000
	// places is how many digits behind the point count.
	places = 3
	// wholes is how many digits the whole part of MaxNum has.
	wholes = 7
	// longest is how long a printed text may be: a sign, the whole part, a point, the thousandths.
	longest = 1 + wholes + 1 + places
)

// Hold answers the nearest number that there is.
func Hold(x int) int {
	return hold(int64(x))
}

// hold takes 64 bits, since an int may have 32: too few for what two held numbers make.
func hold(x int64) int {
	return int(max(-api.MaxLen, min(x, api.MaxLen)))
}

// Add answers the sum.
func Add(a, b int) int {
	return hold(int64(Hold(a)) + int64(Hold(b)))
}

// Sub answers the difference.
func Sub(a, b int) int {
	return hold(int64(Hold(a)) - int64(Hold(b)))
}

// Part answers a times n, divided by d; 0, if d is 0.
func Part(a, n, d int) int {
	if d == 0 {
		return 0
	}
	product := int64(Hold(a)) * int64(Hold(n))
	return hold(floor(product, int64(Hold(d))))
}

// floor divides downwards, since Go's own division goes towards 0.
func floor(p, d int64) int64 {
	q := p / d
	if p%d != 0 && (p < 0) != (d < 0) {
		q--
	}
	return q
}

// Px answers the length of n thousandths of a px.
func Px(n int) int {
	return Part(n, api.Unit, thousand)
}

// Percent answers n thousandths of a percent of base.
func Percent(base, n int) int {
	return Part(base, n, 100*thousand)
}

// Clamp answers x, at most hi, and then at least lo: where both can't be, lo counts.
func Clamp(x, lo, hi int) int {
	return max(Hold(lo), min(Hold(x), Hold(hi)))
}

// Parse reads a number's text as thousandths.
func Parse(s string) (int, api.Errno) {
	n, behind := 0, 0
	// Held digit by digit, a text of any length stops at the same end.
	take := func(d int) { n = hold(int64(n)*10 + int64(d)) }
	start := sign(s)
	point := digits(s, start, take)
	end := point
	if point < len(s) && s[point] == '.' {
		end = digits(s, point+1, func(d int) {
			if behind < places {
				take(d)
				behind++
			}
		})
	}
	none := behind == 0 && (point == start || end > point)
	if none || end < len(s) {
		return 0, api.ErrText
	}
	for range places - behind {
		take(0)
	}
	if s[0] == '-' {
		n = -n
	}
	return n, api.OK
}

// sign answers the place behind a sign, if s begins with one.
func sign(s string) int {
	if s != "" && (s[0] == '+' || s[0] == '-') {
		return 1
	}
	return 0
}

// digits tells take each digit of s from a place on, and answers the place behind the last one.
func digits(s string, at int, take func(d int)) int {
	for at < len(s) && s[at] >= '0' && s[at] <= '9' {
		take(int(s[at] - '0'))
		at++
	}
	return at
}

// Print writes thousandths as a number's text.
func Print(n int) string {
	n = Hold(n)
	left := max(n, -n)
	var text [longest]byte
	from := longest
	put := func(c byte) {
		from--
		text[from] = c
	}
	for range places {
		// A nought is written only where a digit stands behind it.
		if left%10 != 0 || from < longest {
			put(byte('0' + left%10))
		}
		left /= 10
	}
	if from < longest {
		put('.')
	}
	for i := range wholes {
		if left > 0 || i == 0 {
			put(byte('0' + left%10))
		}
		left /= 10
	}
	if n < 0 {
		put('-')
	}
	return string(text[from:])
}
