package lex

import (
	"strings"

	"wainscot/api"
	"wainscot/fix"
	"wainscot/scan"
)

// newline ends a text between quotes that is not closed.
const newline = 10

// cut hands the tokens of a text of any length to take, one by one, until that answers false.
func cut(s string, take func(t api.Token) bool) {
	var t api.Token
	from, at := 0, 0
begin:
	from, t = at, api.Token{}
	switch {
	case at == len(s):
		return
	case strings.HasPrefix(s[at:], "/*"):
		goto comment
	case blank(s[at]):
		goto space
	case s[at] == '"' || s[at] == '\'':
		goto quote
	case number(s, at) > at:
		goto number
	case s[at] == '#' && at+1 < len(s) && scan.OfName(s[at+1]):
		from, t.Kind = at+1, api.Hash
		goto name
	case s[at] == '@' && scan.Begins(s, at+1):
		from, t.Kind = at+1, api.At
		goto name
	case scan.Begins(s, at):
		t.Kind = api.Ident
		goto name
	default:
		goto sign
	}
comment:
	at = behind(s, at+len("/*"), "*/")
	goto begin
space:
	at = scan.Pass(s, at, blank)
	t.Kind = api.Space
	goto told
quote:
	t, at = quote(s, at)
	goto told
number:
	t, at = measure(s, at)
	goto told
name:
	at = scan.Pass(s, from, scan.OfName)
	t.Text = s[from:at]
	if t.Kind == api.Ident && strings.HasPrefix(s[at:], "(") {
		at++
		t.Kind = api.Func
	}
	goto told
sign:
	at++
	t = sign(s[from:at])
told:
	if take(t) {
		goto begin
	}
}

// quote answers the token of the quote at a place, and the place behind it.
func quote(s string, at int) (api.Token, int) {
	mark := s[at]
	end := scan.Pass(s, at+1, func(c byte) bool { return c != mark && c != newline })
	t := api.Token{Kind: api.Str, Text: s[at+1 : end]}
	if end == len(s) {
		return t, end
	}
	if s[end] == newline {
		t.Kind = api.BadStr
		return t, end
	}
	return t, end + 1
}

// measure answers the token of the number at a place with what it is a number of, and the place behind it.
func measure(s string, at int) (api.Token, int) {
	end := number(s, at)
	n, _ := fix.Parse(s[at:end])
	if strings.HasPrefix(s[end:], "%") {
		return api.Token{Kind: api.Pct, N: n}, end + 1
	}
	if scan.Begins(s, end) {
		unit := scan.Pass(s, end, scan.OfName)
		return api.Token{Kind: api.Dim, Text: s[end:unit], N: n}, unit
	}
	return api.Token{Kind: api.Num, N: n}, end
}

// behind answers the place behind the next mark from a place on, or the end, if there is none.
func behind(s string, at int, mark string) int {
	if i := strings.Index(s[at:], mark); i >= 0 {
		return at + i + len(mark)
	}
	return len(s)
}

// number answers the place behind the longest number's text that begins at a place; that place itself, if none does.
func number(s string, at int) int {
	start := at
	if s[at] == '+' || s[at] == '-' {
		start++
	}
	end := scan.Pass(s, start, digit)
	if strings.HasPrefix(s[end:], ".") {
		// A point is of the number only with a digit behind it.
		if more := scan.Pass(s, end+1, digit); more > end+1 {
			end = more
		}
	}
	if end == start {
		return at
	}
	return end
}

// sign answers the token of one byte.
func sign(c string) api.Token {
	if i := strings.Index(signs, c); i >= 0 {
		return api.Token{Kind: api.Colon + i}
	}
	return api.Token{Kind: api.Delim, Text: c}
}

// blank tells whether a byte is one.
func blank(c byte) bool {
	return c == 9 || c == newline || c == 12 || c == 13 || c == ' '
}

// digit tells whether a byte is one.
func digit(c byte) bool {
	return c >= '0' && c <= '9'
}
