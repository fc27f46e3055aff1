// Package scan passes over the bytes of a text: what the layers that read texts have in common.
package scan

import (
	"wainscot/tree"
)

// Pass answers the place behind the bytes from a place on that are as they should.
func Pass(s string, at int, should func(c byte) bool) int {
	for at < len(s) && should(s[at]) {
		at++
	}
	return at
}

// OfName tells whether a byte may stand in a name behind its beginning.
func OfName(c byte) bool {
	return tree.Name(string([]byte{'a', c}))
}

// Begins tells whether a name begins at a place: its beginning is a name itself, of one byte or of two.
func Begins(s string, at int) bool {
	rest := s[at:]
	return tree.Name(rest[:min(1, len(rest))]) || tree.Name(rest[:min(2, len(rest))])
}
