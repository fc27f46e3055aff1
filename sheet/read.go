package sheet

import (
	"slices"

	"wainscot/api"
	"wainscot/lex"
	"wainscot/prop"
	"wainscot/query"
	"wainscot/selector"
	"wainscot/syntax"
)

// Parse answers a sheet's rules, each of an origin.
func Parse(s string, origin int) ([]api.Rule, api.Errno) {
	if !known(origin) {
		return nil, api.ErrArg
	}
	l, e := lex.Lex(s)
	if e != api.OK {
		return nil, e
	}
	g := gatherer{origin: origin}
	each(l, nil, g.gather)
	if len(g.rules) > api.MaxRules {
		return nil, api.ErrRules
	}
	return g.rules, api.OK
}

// each hands on the rules of a list of tokens that are no containers' ones, with the queries that each one stands in.
func each(l []api.Token, conds []api.Query, take func(r api.Raw, conds []api.Query)) {
	for _, r := range syntax.Rules(l) {
		switch {
		// An At that was cut out of a text has a name.
		case r.At == "":
			take(r, conds)
		case r.At == container && r.Block && len(conds) < api.MaxConds:
			if q, e := query.Parse(r.Head); e == api.OK {
				each(r.Body, append(conds[:len(conds):len(conds)], q), take)
			}
		}
	}
}

// gatherer has the rules that were gathered so far, all of one origin.
type gatherer struct {
	origin int
	rules  []api.Rule
}

// gather puts a rule behind the others, if it is one. One too many is enough: no further one is put behind that.
func (g *gatherer) gather(r api.Raw, conds []api.Query) {
	if len(g.rules) > api.MaxRules {
		return
	}
	sels, e := selector.Parse(r.Head)
	if e != api.OK || len(sels) > api.MaxRules {
		return
	}
	g.rules = append(g.rules, api.Rule{Origin: g.origin, Conds: clone(conds), Sels: sels, Decls: decls(r.Body)})
}

// clone answers queries that share no list with those of l: several rules may stand in these.
func clone(l []api.Query) []api.Query {
	var all []api.Query
	for _, q := range l {
		q.Nodes = slices.Clone(q.Nodes)
		all = append(all, q)
	}
	return all
}

// decls answers all that the declarations of a rule's body declare.
func decls(body []api.Token) []api.Decl {
	var all []api.Decl
	for _, raw := range syntax.Decls(body) {
		// What is no declaration of a property has none.
		l, _ := prop.Parse(raw)
		all = append(all, l...)
	}
	return all
}
