package sheet

import (
	"slices"

	"wainscot/api"
	"wainscot/lex"
	"wainscot/prop"
	"wainscot/query"
	"wainscot/selector"
	"wainscot/tokens"
)

// Print answers rules as a sheet.
func Print(l []api.Rule) (string, api.Errno) {
	if len(l) > api.MaxRules {
		return "", api.ErrRules
	}
	odd := func(r api.Rule) bool { return !Right(r) }
	if slices.ContainsFunc(l, odd) {
		return "", api.ErrForm
	}
	var w writer
	for i := 0; i < len(l) && !w.full(); i++ {
		if i > 0 {
			w.signs(api.Space)
		}
		w.rule(l[i])
	}
	return lex.Print(w.done)
}

// writer writes rules: it has the tokens of those that were written.
type writer struct {
	done []api.Token
}

// full tells whether there are more tokens than a text may have bytes: it is too long then, whatever else is put.
func (w *writer) full() bool {
	return len(w.done) > api.MaxText
}

// put puts tokens behind the others, as long as they count.
func (w *writer) put(l ...api.Token) {
	if !w.full() {
		w.done = append(w.done, l...)
	}
}

// signs puts tokens whose kinds say all behind the others.
func (w *writer) signs(kinds ...int) {
	for _, k := range kinds {
		w.put(tokens.Sign(k))
	}
}

// rule writes a right rule in its queries.
func (w *writer) rule(r api.Rule) {
	for _, q := range r.Conds {
		w.put(api.Token{Kind: api.At, Text: container})
		w.signs(api.Space)
		l, _ := query.Print(q)
		w.put(l...)
		w.signs(api.Space, api.OpenCu, api.Space)
	}
	l, _ := selector.Print(r.Sels)
	w.put(l...)
	w.signs(api.Space, api.OpenCu)
	for _, d := range r.Decls {
		w.decl(d)
	}
	w.signs(api.Space, api.CloseCu)
	for range r.Conds {
		w.signs(api.Space, api.CloseCu)
	}
}

// decl writes a declaration.
func (w *writer) decl(d api.Decl) {
	raw, _ := prop.Raw(d)
	w.signs(api.Space)
	w.put(tokens.Ident(raw.Name))
	w.signs(api.Colon, api.Space)
	w.put(raw.Value...)
	if raw.Important {
		w.signs(api.Space)
		w.put(tokens.Delim("!"), tokens.Ident("important"))
	}
	w.signs(api.Semi)
}
