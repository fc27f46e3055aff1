// Package tokens goes through lists of tokens, and makes tokens: what the layers that read and write them have in common.
package tokens

import (
	"wainscot/api"
)

// Cursor goes through a list, which it does not change: it stands ahead of the tokens that are left.
type Cursor struct {
	Left []api.Token
}

// Next answers the next token, a zero one at the end.
func (c *Cursor) Next() api.Token {
	if len(c.Left) == 0 {
		return api.Token{}
	}
	return c.Left[0]
}

// Take passes the next token, if it is of a kind, and answers it.
func (c *Cursor) Take(kind int) (api.Token, bool) {
	t := c.Next()
	if len(c.Left) == 0 || t.Kind != kind {
		return api.Token{}, false
	}
	c.Left = c.Left[1:]
	return t, true
}

// Pass passes the next token, if it is of a kind and has a text, and tells whether it did.
func (c *Cursor) Pass(kind int, text string) bool {
	if c.Next().Text != text {
		return false
	}
	_, passed := c.Take(kind)
	return passed
}

// Spaces passes Spaces, and tells whether there were any.
func (c *Cursor) Spaces() bool {
	was := len(c.Left)
	for c.Next().Kind == api.Space {
		c.Left = c.Left[1:]
	}
	return len(c.Left) < was
}

// Over passes a / and a Num behind it, Spaces or none ahead of both, and answers that Num; it passes nothing, if there are not both.
func (c *Cursor) Over() (api.Token, bool) {
	ahead := *c
	ahead.Spaces()
	if !ahead.Pass(api.Delim, "/") {
		return api.Token{}, false
	}
	ahead.Spaces()
	t, some := ahead.Take(api.Num)
	if some {
		*c = ahead
	}
	return t, some
}

// Ident answers an Ident.
func Ident(text string) api.Token {
	return api.Token{Kind: api.Ident, Text: text}
}

// Delim answers a Delim.
func Delim(text string) api.Token {
	return api.Token{Kind: api.Delim, Text: text}
}

// Sign answers a token of a kind that says all: a Space, a Colon, a bracket.
func Sign(kind int) api.Token {
	return api.Token{Kind: kind}
}

// Ratio answers the tokens of a ratio, n to d.
func Ratio(n, d int) []api.Token {
	return []api.Token{{Kind: api.Num, N: n}, Sign(api.Space), Delim("/"), Sign(api.Space), {Kind: api.Num, N: d}}
}
