package selector

import (
	"wainscot/api"
	"wainscot/syntax"
	"wainscot/tokens"
)

// reader reads a selector: it stands in its tokens, and has the part that it reads there.
type reader struct {
	tokens.Cursor
	part api.Part
}

// Parse answers the selectors of a list's tokens.
func Parse(l []api.Token) ([]api.Selector, api.Errno) {
	var all []api.Selector
	for _, piece := range syntax.Split(l, api.Comma) {
		s, ok := read(syntax.Trim(piece))
		if !ok {
			return nil, api.ErrSelector
		}
		all = append(all, s)
	}
	return all, api.OK
}

// read answers the selector of a trimmed piece, and whether it is one.
func read(piece []api.Token) (api.Selector, bool) {
	r := reader{Cursor: tokens.Cursor{Left: piece}}
	var s api.Selector
	for comb := none; len(s.Parts) < api.MaxParts && r.readPart(comb); comb = r.readComb() {
		s.Parts = append(s.Parts, r.part)
		if len(r.Left) == 0 {
			// Which names are names, and how many marks there may be, the reader does not ask.
			return s, Right(s)
		}
	}
	return api.Selector{}, false
}

// readComb reads the combinator between two parts; without one it answers none, which no further part has.
func (r *reader) readComb() int {
	spaces := r.Spaces()
	for comb := api.Child; comb <= api.Later; comb++ {
		if r.Pass(api.Delim, mark(comb)) {
			r.Spaces()
			return comb
		}
	}
	if spaces {
		return api.Beneath
	}
	return none
}

// readPart reads a part of a Comb: a tag, and simple parts behind it, at least one token in all.
func (r *reader) readPart(comb int) bool {
	r.part = api.Part{Comb: comb}
	some := r.readTag()
	for read := r.simple(); read != nil; read = r.simple() {
		if !read() {
			return false
		}
		some = true
	}
	return some
}

// readTag reads a tag, or a * for any, and tells whether there was one.
func (r *reader) readTag() bool {
	if r.Pass(api.Delim, "*") {
		return true
	}
	t, some := r.Take(api.Ident)
	r.part.Tag = t.Text
	return some
}

// simple answers the method that reads the simple part which comes next; none, if there is no further one.
func (r *reader) simple() func() bool {
	switch t := r.Next(); {
	case t.Kind == api.Hash:
		return r.readID
	case t.Kind == api.OpenSq:
		return r.readTest
	case t.Kind == api.Colon:
		return r.readState
	case t.Kind == api.Delim && t.Text == ".":
		return r.readClass
	}
	return nil
}

// readID reads an ID, unless there is one already.
func (r *reader) readID() bool {
	if r.part.ID != "" {
		return false
	}
	t, some := r.Take(api.Hash)
	r.part.ID = t.Text
	return some
}

// readClass reads a class.
func (r *reader) readClass() bool {
	r.Take(api.Delim)
	t, some := r.Take(api.Ident)
	r.part.Classes = append(r.part.Classes, t.Text)
	return some
}

// readState reads a state.
func (r *reader) readState() bool {
	r.Take(api.Colon)
	for state := api.IsRoot; state <= api.IsLast; state *= 2 {
		if r.Pass(api.Ident, word(state)) {
			r.part.States |= state
			return true
		}
	}
	return false
}

// readTest reads a test in its brackets.
func (r *reader) readTest() bool {
	r.Take(api.OpenSq)
	r.Spaces()
	name, ok := r.Take(api.Ident)
	test := api.Test{Name: name.Text}
	r.Spaces()
	if r.Pass(api.Delim, "=") {
		r.Spaces()
		value, some := r.readValue()
		test.Equal, test.Value, ok = true, value.Text, ok && some
		r.Spaces()
	}
	r.part.Tests = append(r.part.Tests, test)
	_, closed := r.Take(api.CloseSq)
	return ok && closed
}

// readValue reads what a test's value is written as.
func (r *reader) readValue() (api.Token, bool) {
	if t, some := r.Take(api.Ident); some {
		return t, true
	}
	return r.Take(api.Str)
}
