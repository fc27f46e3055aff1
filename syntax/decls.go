package syntax

import (
	"slices"

	"wainscot/api"
)

// reader has the declarations that were read so far.
type reader struct {
	decls []api.RawDecl
}

// Decls answers all declarations of a list.
func Decls(l []api.Token) []api.RawDecl {
	var r reader
	cut(l, api.Semi, r.read)
	return r.decls
}

// read puts the declaration of a piece behind the others, if there is one.
func (r *reader) read(piece []api.Token) {
	piece = trimmed(piece)
	if len(piece) == 0 || piece[0].Kind != api.Ident {
		return
	}
	rest := behindSpaces(piece[1:])
	if len(rest) == 0 || rest[0].Kind != api.Colon {
		return
	}
	value, important := unmarked(trimmed(rest[1:]))
	if len(value) == 0 || spoilt(value) {
		return
	}
	r.decls = append(r.decls, api.RawDecl{Name: piece[0].Text, Value: clone(value), Important: important})
}

// unmarked answers a trimmed value without the mark of what is important at its end, and whether it was there.
func unmarked(value []api.Token) ([]api.Token, bool) {
	last := len(value) - 1
	if last < 0 || value[last].Kind != api.Ident || value[last].Text != "important" {
		return value, false
	}
	rest := trimmed(value[:last])
	last = len(rest) - 1
	if last < 0 || !exclaims(rest[last]) {
		return value, false
	}
	return trimmed(rest[:last]), true
}

// spoilt tells whether a value has what no value may have.
func spoilt(value []api.Token) bool {
	broken := func(t api.Token) bool { return t.Kind == api.BadStr }
	return slices.ContainsFunc(value, broken) || first(value, exclaims) < len(value)
}

// exclaims tells whether a token is a Delim !.
func exclaims(t api.Token) bool {
	return t.Kind == api.Delim && t.Text == "!"
}
