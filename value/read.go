package value

import (
	"wainscot/api"
	"wainscot/syntax"
	"wainscot/tokens"
)

// reader reads a value: it stands in the tokens, and has what it read there.
type reader struct {
	tokens.Cursor
	value api.Value
}

// Read answers the value that a list begins with, and how many tokens it takes; 0, if it begins with none.
func Read(l []api.Token) (api.Value, int) {
	r := reader{Cursor: tokens.Cursor{Left: l}}
	switch {
	case r.take(api.Num, func(t api.Token) api.Value { return api.Value{Kind: api.Number, N: t.N} }):
		r.takeOver()
	case r.take(api.Pct, func(t api.Token) api.Value { return api.Value{Kind: api.Percent, N: t.N} }):
	case r.take(api.Dim, func(t api.Token) api.Value { return api.Value{Kind: api.Length, N: t.N, D: Unit(t.Text)} }):
	case r.take(api.Ident, named):
	}
	// Which numbers, units and names there are, the reader does not ask.
	if !Right(r.value) {
		return api.Value{}, 0
	}
	return r.value, len(l) - len(r.Left)
}

// take reads the next token, if it is of a kind, as it is told, and tells whether it did.
func (r *reader) take(kind int, as func(t api.Token) api.Value) bool {
	t, some := r.Take(kind)
	if some {
		r.value = as(t)
	}
	return some
}

// takeOver makes the number that was read a ratio, if a / and a further number stand behind it.
func (r *reader) takeOver() {
	if d, some := r.Over(); some {
		r.value.Kind, r.value.D = api.Ratio, d.N
	}
}

// named answers an Ident's value.
func named(t api.Token) api.Value {
	if n := Word(t.Text); n > 0 {
		return api.Value{Kind: api.Word, N: n}
	}
	return api.Value{Kind: api.Name, Name: t.Text}
}

// Parse answers all values of a list: Spaces stand between each two.
func Parse(l []api.Token) ([]api.Value, api.Errno) {
	c := tokens.Cursor{Left: syntax.Trim(l)}
	var all []api.Value
	for parted := true; parted; parted = c.Spaces() {
		v, n := Read(c.Left)
		if n == 0 {
			return nil, api.ErrValue
		}
		all = append(all, v)
		c.Left = c.Left[n:]
	}
	if len(c.Left) > 0 {
		return nil, api.ErrValue
	}
	return all, api.OK
}
