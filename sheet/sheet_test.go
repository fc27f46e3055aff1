package sheet_test

import (
	"math"
	"slices"
	"strings"
	"testing"

	"wainscot/api"
	"wainscot/lex"
	"wainscot/prop"
	"wainscot/query"
	"wainscot/selector"
	"wainscot/sheet"
	"wainscot/value"
)

const (
	least = math.MinInt
	most  = math.MaxInt
)

// chance hands out numbers that look like chance, the same ones in every run.
type chance uint64

func (c *chance) below(n int) int {
	*c = *c*6364136223846793005 + 1442695040888963407
	return int(uint64(*c)>>33) % n
}

// oneOf is one of some.
func oneOf[T any](c *chance, l ...T) T {
	return l[c.below(len(l))]
}

// cut answers a text's tokens.
func cut(s string) []api.Token {
	l, e := lex.Lex(s)
	if e != api.OK {
		panic(s)
	}
	return l
}

// sels are the selectors of a text.
func sels(s string) []api.Selector {
	l, e := selector.Parse(cut(s))
	if e != api.OK {
		panic(s)
	}
	return l
}

// asked is the query of a text.
func asked(s string) api.Query {
	q, e := query.Parse(cut(s))
	if e != api.OK {
		panic(s)
	}
	return q
}

// decl is a declaration of a property's name and a value's text.
func decl(name, text string, important ...bool) api.Decl {
	v, e := value.Parse(cut(text))
	if e != api.OK || len(v) != 1 || prop.Named(name) == 0 {
		panic(name)
	}
	return api.Decl{Prop: prop.Named(name), Value: v[0], Important: len(important) > 0}
}

// rule is a rule of the author's, of a text of selectors.
func rule(heads string, decls ...api.Decl) api.Rule {
	return api.Rule{Origin: 1, Sels: sels(heads), Decls: decls}
}

// within is a rule within queries.
func within(r api.Rule, queries ...string) api.Rule {
	r.Conds = nil
	for _, s := range queries {
		r.Conds = append(r.Conds, asked(s))
	}
	return r
}

// heads are texts of selectors, and queries those of queries.
func heads() []string {
	return []string{"a", "a, b", "*", "a#b.c[d]:root", "[a=\"{;}\"]", "a > b + c ~ d e", "#x:last-child, .-y *", "--", "a" + strings.Repeat(".c", api.MaxMarks)}
}

func queries() []string {
	return []string{"(width > 9px)", "card (height)", "not (orientation: portrait)", "(1px < width <= 2.5px) and (not ((aspect-ratio >= 16 / 9) or (block-size = 0px)))", "-x (inline-size)"}
}

// someDecl is a right declaration.
func someDecl(c *chance) api.Decl {
	for {
		v := api.Value{Kind: 1 + c.below(api.Name)}
		switch v.Kind {
		case api.Word:
			v.N = 1 + c.below(30)
		case api.Length:
			v.N, v.D = oneOf(c, 0, 1, -1, 1500, -20, api.MaxLen, -api.MaxLen), 1+c.below(api.Cqmax)
		case api.Ratio:
			v.N, v.D = oneOf(c, 1, 16000, api.MaxNum), oneOf(c, 1, 9000, api.MaxNum)
		case api.Name:
			v.Name = oneOf(c, "card", "important", "--", "\x80", strings.Repeat("n", api.MaxName))
		default:
			v.N = oneOf(c, 0, 1000, -1000, 50, 2500, api.MaxNum, -api.MaxNum)
		}
		if d := (api.Decl{Prop: 1 + c.below(prop.Count), Value: v, Important: c.below(3) == 0}); prop.Takes(d.Prop, v) {
			return d
		}
	}
}

// someRule is a right rule.
func someRule(c *chance) api.Rule {
	r := rule(oneOf(c, heads()...))
	r.Origin = c.below(2)
	for range oneOf(c, 0, 0, 1, 2, api.MaxConds) {
		r.Conds = append(r.Conds, asked(oneOf(c, queries()...)))
	}
	for range oneOf(c, 0, 1, 2, 5) {
		r.Decls = append(r.Decls, someDecl(c))
	}
	return r
}

// oddRule is a rule that may lack something.
func oddRule(c *chance) api.Rule {
	r := someRule(c)
	switch c.below(12) {
	case 0:
		r.Origin = oneOf(c, least, -1, 2, 3, 1<<32, most)
	case 1:
		r.Conds = slices.Repeat([]api.Query{asked("(width)")}, c.below(9))
	case 2:
		r.Conds = append(r.Conds, oneOf(c, api.Query{}, api.Query{Name: "not", Nodes: asked("(width)").Nodes}, api.Query{Nodes: []api.QNode{{Kind: api.Not, Count: 1}}}))
	case 3:
		r.Sels = nil
	case 4:
		r.Sels = slices.Repeat(r.Sels, oneOf(c, 1, 100, 129, 256, 257))
	case 5:
		r.Sels = append(r.Sels, oneOf(c, api.Selector{}, api.Selector{Parts: []api.Part{{Comb: 1}}}, api.Selector{Parts: []api.Part{{Tag: "1"}}}))
	case 6:
		r.Decls = append(r.Decls, oneOf(c, api.Decl{}, api.Decl{Prop: least, Value: decl("order", "1").Value}, api.Decl{Prop: prop.Count + 1, Value: decl("order", "inherit").Value}))
	case 7:
		r.Decls = append(r.Decls, api.Decl{Prop: 1 + c.below(prop.Count), Value: decl("margin-top", "-1px").Value})
	case 8:
		r.Decls = append(r.Decls, api.Decl{Prop: 1 + c.below(prop.Count)})
	}
	return r
}

// deep is a copy that shares no list.
func deep(l []api.Rule) []api.Rule {
	m := slices.Clone(l)
	for i := range m {
		m[i].Conds, m[i].Sels, m[i].Decls = slices.Clone(m[i].Conds), slices.Clone(m[i].Sels), slices.Clone(m[i].Decls)
		for j, q := range m[i].Conds {
			m[i].Conds[j].Nodes = slices.Clone(q.Nodes)
		}
		for j, s := range m[i].Sels {
			m[i].Sels[j].Parts = slices.Clone(s.Parts)
			for k, p := range s.Parts {
				m[i].Sels[j].Parts[k].Classes, m[i].Sels[j].Parts[k].Tests = slices.Clone(p.Classes), slices.Clone(p.Tests)
			}
		}
	}
	return m
}

// spoil overwrites all that a rule holds.
func spoil(r api.Rule) {
	for i := range r.Conds {
		for j := range r.Conds[i].Nodes {
			r.Conds[i].Nodes[j] = api.QNode{Kind: 99}
		}
		r.Conds[i] = api.Query{Name: "spoilt"}
	}
	for i := range r.Sels {
		for j := range r.Sels[i].Parts {
			p := &r.Sels[i].Parts[j]
			for k := range p.Classes {
				p.Classes[k] = "spoilt"
			}
			for k := range p.Tests {
				p.Tests[k].Name = "spoilt"
			}
			p.Tag = "spoilt"
		}
	}
	for i := range r.Decls {
		r.Decls[i] = api.Decl{Prop: 99}
	}
}

// rightOf is Right by the chapter's words.
func rightOf(r api.Rule) bool {
	ok := (r.Origin == 0 || r.Origin == 1) && len(r.Conds) <= 4 && len(r.Sels) >= 1 && len(r.Sels) <= 256
	for _, q := range r.Conds {
		ok = ok && query.Right(q)
	}
	for _, s := range r.Sels {
		ok = ok && selector.Right(s)
	}
	for _, d := range r.Decls {
		ok = ok && prop.Takes(d.Prop, d.Value)
	}
	return ok
}

// TestRight: P12.1, of what a rule has.
func TestRight(t *testing.T) {
	full := within(rule("a", decl("width", "1px"), decl("order", "inherit")), queries()[:4]...)
	for name, r := range map[string]api.Rule{
		"full": full, "bare": rule("a"), "many": {Sels: slices.Repeat(sels("a"), 256)}, "own": {Origin: 0, Sels: sels("a > b"), Decls: slices.Repeat(full.Decls, 5000)},
	} {
		if !sheet.Right(r) {
			t.Errorf("%s is not right", name)
		}
	}
	spoilt := func(change func(r *api.Rule)) api.Rule {
		r := deep([]api.Rule{full})[0]
		change(&r)
		return r
	}
	for name, r := range map[string]api.Rule{
		"zero": {}, "origin -1": spoilt(func(r *api.Rule) { r.Origin = -1 }), "origin 2": spoilt(func(r *api.Rule) { r.Origin = 2 }),
		"five queries": spoilt(func(r *api.Rule) { r.Conds = append(r.Conds, asked("(width)")) }), "no query": spoilt(func(r *api.Rule) { r.Conds[3] = api.Query{} }), "a wrong name": spoilt(func(r *api.Rule) { r.Conds[0].Name = "or" }),
		"no selectors": spoilt(func(r *api.Rule) { r.Sels = nil }), "too many selectors": {Sels: slices.Repeat(sels("a"), 257)}, "no selector": spoilt(func(r *api.Rule) { r.Sels = append(r.Sels, api.Selector{}) }), "a wrong part": spoilt(func(r *api.Rule) { r.Sels[0].Parts[0].States = 8 }),
		"no property": spoilt(func(r *api.Rule) { r.Decls[1].Prop = 0 }), "too great a property": spoilt(func(r *api.Rule) { r.Decls[1].Prop = prop.Count + 1 }), "a value of another one": spoilt(func(r *api.Rule) { r.Decls[0].Value = decl("order", "1").Value }), "no value": spoilt(func(r *api.Rule) { r.Decls[0].Value.D = 9 }),
	} {
		if sheet.Right(r) {
			t.Errorf("%s is right", name)
		}
	}
	c := chance(7)
	right := 0
	for range 5000 {
		r := oddRule(&c)
		want := rightOf(r)
		if got := sheet.Right(r); got != want {
			t.Fatalf("%v: %t", r, got)
		}
		if want {
			right++
		}
	}
	if right < 500 || right > 4500 {
		t.Errorf("%d are right", right)
	}
}

// TestSame: P12.1: one thing that differs anywhere is enough.
func TestSame(t *testing.T) {
	l := []api.Rule{within(rule("a.b[c], d > e", decl("width", "1px"), decl("order", "2")), "card (width > 9px)", "(height)"), rule("f"), within(rule("g"), "(width)")}
	if !sheet.Same(l, deep(l)) || !sheet.Same(nil, []api.Rule{}) || !sheet.Same([]api.Rule{{}}, []api.Rule{{Conds: []api.Query{}, Sels: []api.Selector{}, Decls: []api.Decl{}}}) {
		t.Error("the same are not the same")
	}
	for i, change := range []func(m []api.Rule) []api.Rule{
		func(m []api.Rule) []api.Rule { return m[:2] },
		func(m []api.Rule) []api.Rule { return append(m, rule("h")) },
		func(m []api.Rule) []api.Rule { return nil },
		func(m []api.Rule) []api.Rule { return []api.Rule{m[0], m[2], m[1]} },
		func(m []api.Rule) []api.Rule { m[1].Origin = 0; return m },
		func(m []api.Rule) []api.Rule { m[0].Conds[0].Name = "cart"; return m },
		func(m []api.Rule) []api.Rule { m[0].Conds[0].Nodes[0].Hi.N++; return m },
		func(m []api.Rule) []api.Rule { m[0].Conds = m[0].Conds[:1]; return m },
		func(m []api.Rule) []api.Rule { slices.Reverse(m[0].Conds); return m },
		func(m []api.Rule) []api.Rule { m[1].Conds = m[2].Conds; return m },
		func(m []api.Rule) []api.Rule { m[0].Sels[1].Parts[1].Comb = api.Next; return m },
		func(m []api.Rule) []api.Rule { m[0].Sels[0].Parts[0].Classes[0] = "x"; return m },
		func(m []api.Rule) []api.Rule { m[0].Sels[0].Parts[0].Tests[0].Equal = true; return m },
		func(m []api.Rule) []api.Rule { m[2].Sels = nil; return m },
		func(m []api.Rule) []api.Rule { slices.Reverse(m[0].Sels); return m },
		func(m []api.Rule) []api.Rule { slices.Reverse(m[0].Decls); return m },
		func(m []api.Rule) []api.Rule { m[0].Decls[0].Important = true; return m },
		func(m []api.Rule) []api.Rule { m[0].Decls[0].Value.N++; return m },
		func(m []api.Rule) []api.Rule { m[0].Decls[1].Prop++; return m },
		func(m []api.Rule) []api.Rule { m[0].Decls = m[0].Decls[:1]; return m },
		func(m []api.Rule) []api.Rule { m[1].Decls = m[0].Decls; return m },
	} {
		m := change(deep(l))
		if sheet.Same(l, m) || sheet.Same(m, l) || !sheet.Same(m, m) {
			t.Errorf("change %d is not seen", i)
		}
	}
}

// TestAnything: P1: every call ends and none panics, whatever it is given.
func TestAnything(t *testing.T) {
	c := chance(9)
	var was []api.Rule
	for range 3000 {
		var l []api.Rule
		for range c.below(4) {
			l = append(l, oddRule(&c))
		}
		for _, r := range append(l, api.Rule{}) {
			sheet.Right(r)
		}
		sheet.Same(l, was)
		sheet.Same(l, l)
		sheet.Print(l)
		was = l
		var b strings.Builder
		for range c.below(40) {
			b.WriteString(oneOf(&c, "a", "{", "}", "(", ")", "[", "]", ";", ":", ",", " ", "@container", "@x", "(width)", "order:1", "!important", "'", "\n", "/*", "\x00\xff", "not", "*"))
		}
		if got, e := sheet.Parse(b.String(), c.below(4)-1); e != api.OK && len(got) > 0 {
			t.Fatalf("%q: %v, %d", b.String(), got, e)
		}
	}
	for _, s := range []string{"a", "{", "}", "a{", "a{}", "@container", "@container(width){", "@container(width){a{}", "(", "[", "a,", "a{order:1;", "order:1;", "'", "/*", "@x{", "!", "\x00"} {
		for _, n := range []int{1 << 8, 1 << 12, api.MaxText} {
			for _, origin := range []int{least, 0, 1, most} {
				sheet.Parse(strings.Repeat(s, n/len(s)), origin)
			}
		}
	}
	sheet.Right(api.Rule{Sels: sels("a"), Decls: make([]api.Decl, 1<<20)})
}
