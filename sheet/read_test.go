package sheet_test

import (
	"slices"
	"strings"
	"testing"

	"wainscot/api"
	"wainscot/sheet"
)

// reads fails if a text is not read as rules, of both origins.
func reads(t *testing.T, s string, want ...api.Rule) {
	t.Helper()
	for origin := range 2 {
		want = slices.Clone(want)
		for i := range want {
			want[i].Origin = origin
		}
		if got, e := sheet.Parse(s, origin); e != api.OK || !sheet.Same(got, want) {
			t.Errorf("%q: %v, %d, not %v", s, got, e, want)
		}
	}
}

// fails fails if a text is not answered an error.
func fails(t *testing.T, s string, origin int, want api.Errno) {
	t.Helper()
	if got, e := sheet.Parse(s, origin); e != want || len(got) > 0 {
		t.Errorf("%d bytes, %q ..: %d rules, %d, not %d", len(s), s[:min(len(s), 40)], len(got), e, want)
	}
}

// TestExamples: the chapter's example, and others.
func TestExamples(t *testing.T) {
	reads(t, "p{width:1px} @container (width>9px){a,b{color:red}} @x{c{}}", rule("p", decl("width", "1px")), within(rule("a, b"), "(width > 9px)"))
	reads(t, "")
	reads(t, " /* a{} */ \n")
	reads(t, "a{}", rule("a"))
	reads(t, "a b>c{order:1;order:2!important}d{order:3}", rule("a b > c", decl("order", "1"), decl("order", "2", true)), rule("d", decl("order", "3")))
	reads(t, "@container card (width){a{}b{}}c{}", within(rule("a"), "card (width)"), within(rule("b"), "card (width)"), rule("c"))
	reads(t, "@container (width){a{}@container x (height){b{}}c{}}@container (height){}d{}", within(rule("a"), "(width)"), within(rule("b"), "(width)", "x (height)"), within(rule("c"), "(width)"), rule("d"))
	reads(t, "a{order:1", rule("a", decl("order", "1")))
	reads(t, "@container (width){a{order:1", within(rule("a", decl("order", "1")), "(width)"))
	reads(t, "@container/**/(width)/**/{a/**/b{}a/**/.c{}}", within(rule("a.c"), "(width)"))
}

// TestDecls: P12.2: what a rule declares, in order; what prop does not parse is left out.
func TestDecls(t *testing.T) {
	margin := []api.Decl{decl("margin-top", "1px"), decl("margin-right", "auto"), decl("margin-bottom", "1px"), decl("margin-left", "auto")}
	reads(t, "a{margin:1px auto}", rule("a", margin...))
	reads(t, "a{order:1;margin:1px auto;order:1}", rule("a", slices.Concat([]api.Decl{decl("order", "1")}, margin, []api.Decl{decl("order", "1")})...))
	reads(t, "a{container: card / size !important}", rule("a", decl("container-type", "size", true), decl("container-name", "card", true)))
	reads(t, "a{font-size:inherit;flex:none}", rule("a", decl("font-size", "inherit"), decl("flex-grow", "0"), decl("flex-shrink", "0"), decl("flex-basis", "auto")))
	one := rule("a", decl("order", "1"), decl("order", "2"))
	for _, wrong := range []string{
		"", "color:red", "order", "order:", ":1", "order 1", "order:1px", "order:1.5", "order:1 2", "order:1!", "order:!important", "order:1!important!important", "1:order", "(order:1)", "ORDER:1", "padding:-1px", "margin:0", "margin:1px inherit",
		"b{order:3}", "b{order:3;order:4}", "x:{order:3;order:4}", "order:(1;order:3)", "x[;order:3;]", "@x", "@container (width){order:3}", "order:1/**/2", "order:\"\n",
	} {
		reads(t, "a{order:1;"+wrong+";order:2}", one)
		reads(t, "a{"+wrong+";order:1;"+wrong+";"+wrong+";order:2;"+wrong+"}", one)
		reads(t, "a{ order : 1 ; "+wrong+" ; order : 2 ; }", one)
		reads(t, "a{"+wrong+"}", rule("a"))
	}
}

// junk are texts that are no rules, each of which ends with what ends a rule, wherever it stands.
func junk() []string {
	return []string{
		"{}", "{order:1}", "1{}", "a,{}", ",a{}", "a,,b{}", "a>{}", ">a{}", "a..b{}", "a:hover{}", "a::b{}", "a b!{}", "a(b){}", "f(a){}", "[a{}]{}", "[a=1]{}", ";a{}", "a;b{}", ")a{}", "'a'{}", "\"a\nb{}", "<!-- a{}", "a#b#c{}", "%{a{}}", "#1a{}",
		"@x;", "@x{}", "@x a{}", "@x{a{}b{c{}}}", "@media (width){a{}}", "@Container (width){a{}}", "@containers (width){a{}}", "@container;", "@container (width);", "@container x;", "@container a;", "@container{a{}}", "@container {a{}}", "@container x{a{}}", "@container (){a{}}", "@container (wide){a{}}",
		"@container card(width){a{}}", "@container not(width){a{}}", "@container (width) (height){a{}}", "@container (width), (height){a{}}", "@container none (width){a{}}", "@container (width>1){a{}}", "@container (width) and (height) or (width){a{}}", "@container (width>1px>2px){a{}}", "@container (width) x{a{}}", "@container\"(width)\"{a{}}",
		"@ container (width){}", "@-x{}", "@\x80;", "@container [a;b] (width);", "@import 'a{b}';", "@container (orientation){1{}}", "@container (width){}", "@container (width){;a{}}", "@container (width){@container x{a{}}}", "@container (width){@x{a{}}}",
	}
}

// TestJunk: P12.5: what is no rule is dropped, and changes nothing else, wherever it stands.
func TestJunk(t *testing.T) {
	a, b := rule("a.x", decl("order", "1")), rule("b", decl("order", "2"))
	const first, second = "a.x{order:1}", "b{order:2}"
	reads(t, first+second, a, b)
	for _, s := range junk() {
		reads(t, s)
		reads(t, s+s+s)
		reads(t, s+first+second, a, b)
		reads(t, first+s+second, a, b)
		reads(t, first+" "+s+" "+s+"/**/ "+second+s, a, b)
		inner := "@container (width){" + s + first + s + "@container x (height){" + s + second + "}}"
		reads(t, inner, within(a, "(width)"), within(b, "(width)", "x (height)"))
		reads(t, s+inner+s+second, within(a, "(width)"), within(b, "(width)", "x (height)"), b)
	}
	// A } that closes nothing is of the rule that it stands ahead of.
	for _, s := range []string{"}a{}", "a}{}", "} @x;{}", "}}}{}"} {
		reads(t, first+s+second, a, b)
		reads(t, s+"@container (width){"+first+"}"+s+second, within(a, "(width)"), b)
	}
	// What does not end with what ends a rule is one with what stands behind it.
	for _, s := range []string{"}", ",", "@x", "@container", "(", "[", "'", ">", ")", ";", "1", "@x{", "{"} {
		reads(t, first+s+" "+first, a)
	}
	reads(t, first+"/*"+first, a)
	reads(t, first+"@container (width)"+second, a)
	reads(t, first+"c{"+second, a, rule("c"))
	reads(t, first+"c "+second, a, rule("c b", decl("order", "2")))
}

// made is a text that looks like chance, and the rules that it says.
func made(c *chance, around []api.Query) (string, []api.Rule) {
	var s strings.Builder
	var rules []api.Rule
	for range c.below(5) {
		s.WriteString(oneOf(c, "", "", " ", "\n", "/*a{}*/"))
		switch c.below(5) {
		case 0:
			s.WriteString(oneOf(c, junk()...))
		case 1, 2:
			q := oneOf(c, queries()...)
			inner := append(slices.Clone(around), asked(q))
			text, within := made(c, inner)
			s.WriteString("@container " + q + "{" + text + "}")
			if len(inner) <= 4 {
				rules = append(rules, within...)
			}
		default:
			h := oneOf(c, heads()...)
			r := rule(h)
			r.Conds = around
			s.WriteString(h + oneOf(c, "", " ") + "{")
			for range c.below(4) {
				texts := []string{"order:1", "width: 50%", "gap:1px 2px", " color : red ", "width:wide", "order:2 !important"}
				told := [][]api.Decl{{decl("order", "1")}, {decl("width", "50%")}, {decl("row-gap", "1px"), decl("column-gap", "2px")}, nil, nil, {decl("order", "2", true)}}
				k := c.below(len(texts))
				s.WriteString(texts[k] + ";")
				r.Decls = append(r.Decls, told[k]...)
			}
			s.WriteString("}")
			rules = append(rules, r)
		}
	}
	return s.String(), rules
}

// TestMade: P12.2, P12.5: of many texts that are put together, the rules of their parts.
func TestMade(t *testing.T) {
	c := chance(13)
	most, deepest := 0, 0
	for range 4000 {
		s, want := made(&c, nil)
		if len(s) > api.MaxText || len(want) > api.MaxRules {
			continue
		}
		reads(t, s, want...)
		most = max(most, len(want))
		for _, r := range want {
			deepest = max(deepest, len(r.Conds))
		}
	}
	if most < 6 || deepest < 4 {
		t.Errorf("at most %d rules, within at most %d queries", most, deepest)
	}
}

// TestNested: P12.2: how many queries there may be around; what stands in one too many is none, all else is.
func TestNested(t *testing.T) {
	const open = "@container (width){"
	for n := range 8 {
		s := strings.Repeat(open+"a{}", n) + "b{}" + strings.Repeat("}c{}", n)
		var want []api.Rule
		at := func(r api.Rule, depth int) {
			if depth <= 4 {
				want = append(want, within(r, slices.Repeat([]string{"(width)"}, depth)...))
			}
		}
		for i := range n {
			at(rule("a"), i+1)
		}
		at(rule("b"), n)
		for i := range n {
			at(rule("c"), n-1-i)
		}
		reads(t, s, want...)
	}
	// A query that is none is not passed over: what stands in it is none, too.
	reads(t, open+"@container x{"+open+"a{}}}b{}}", within(rule("b"), "(width)"))
	reads(t, strings.Repeat(open, 1500)+"a{}")
}

// TestSelectors: P12.2: how many selectors a rule may have.
func TestSelectors(t *testing.T) {
	many := func(n int) string { return strings.Repeat("a, ", n-1) + "a" }
	for _, n := range []int{1, 2, 255, 256} {
		reads(t, many(n)+"{order:1}b{}", rule(many(n), decl("order", "1")), rule("b"))
	}
	for _, n := range []int{257, 258, 1000, 10000} {
		reads(t, many(n)+"{order:1}b{}", rule("b"))
	}
	reads(t, "@container (width){"+many(256)+"{}"+many(257)+"{}}", within(rule(many(256)), "(width)"))
}

// TestMany: P12.2: how many rules there may be; those that are dropped do not count.
func TestMany(t *testing.T) {
	l := slices.Repeat([]api.Rule{rule("a")}, 256)
	full := strings.Repeat("a{}", 256)
	reads(t, full, l...)
	inner := slices.Repeat([]api.Rule{within(rule("a"), "(width)", "(height)")}, 255)
	nested := "@container (width){@container (height){" + strings.Repeat("a{}", 255) + "}}"
	reads(t, nested+"a{}", append(inner, rule("a"))...)
	for _, s := range junk() {
		reads(t, s+full+s, l...)
		fails(t, full+s+"b{}", 1, api.ErrRules)
	}
	reads(t, strings.Repeat("1{}@x;", 2000)+full+strings.Repeat("@container x{a{}}", 300), l...)
	for _, s := range []string{full + "b{}", full + "@container (width){b{}}", nested + "a{}a{}", full + full, strings.Repeat("a{}", api.MaxText/3), full + "b{"} {
		fails(t, s, 0, api.ErrRules)
		fails(t, s, 1, api.ErrRules)
		fails(t, s, 2, api.ErrArg)
	}
	// What is dropped at the fifth query does not count.
	reads(t, full+strings.Repeat("@container (width){", 5)+full, l...)
	reads(t, full+strings.Repeat("a,", 256)+"a{}", l...)
}

// TestWrong: P12.2: the errors of what is handed in, in their order.
func TestWrong(t *testing.T) {
	full := "a{}" + strings.Repeat(" ", api.MaxText-3)
	reads(t, full, rule("a"))
	for _, origin := range []int{0, 1} {
		fails(t, full+" ", origin, api.ErrLong)
		fails(t, strings.Repeat("a{}", api.MaxText), origin, api.ErrLong)
	}
	for _, origin := range []int{least, -1, 2, 3, 1 << 32, most} {
		fails(t, "a{}", origin, api.ErrArg)
		fails(t, "", origin, api.ErrArg)
		fails(t, full+" ", origin, api.ErrArg)
	}
}

// TestOwnMemory: no two lists of what is answered share anything, nor do two answers.
func TestOwnMemory(t *testing.T) {
	const s = "@container x (width){a.b[c],d{order:1}@container (height){@container (width){e{order:2}f{}}g{}@container (block-size){h{}}}i{}}j{}"
	first, _ := sheet.Parse(s, 1)
	if len(first) != 7 {
		t.Fatal(first)
	}
	want := deep(first)
	for i := range first {
		got, e := sheet.Parse(s, 1)
		if e != api.OK || !sheet.Same(got, want) {
			t.Fatal(got, e)
		}
		spoil(got[i])
		got[i].Conds = append(got[i].Conds, api.Query{Name: "more"})
		got[i].Sels = append(got[i].Sels, api.Selector{})
		got[i].Decls = append(got[i].Decls, api.Decl{})
		if !sheet.Same(got[:i], want[:i]) || !sheet.Same(got[i+1:], want[i+1:]) || !sheet.Same(first, want) {
			t.Errorf("rule %d is not its own: %v", i, got)
		}
	}
}
