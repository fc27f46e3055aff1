package syntax_test

import (
	"regexp"
	"slices"
	"testing"

	"wainscot/api"
	"wainscot/syntax"
)

// sameRaw tells whether two rules are the same.
func sameRaw(a, b api.Raw) bool {
	return a.At == b.At && a.Block == b.Block && slices.Equal(a.Head, b.Head) && slices.Equal(a.Body, b.Body)
}

// sameDecl tells whether two declarations are the same.
func sameDecl(a, b api.RawDecl) bool {
	return a.Name == b.Name && a.Important == b.Important && slices.Equal(a.Value, b.Value)
}

// rulesOf is Rules by the chapter's words.
func rulesOf(l []api.Token) []api.Raw {
	var all []api.Raw
	for {
		l = l[len(l)-len(behind(l)):]
		if len(l) == 0 {
			return all
		}
		var r api.Raw
		ends := []int{api.OpenCu}
		at := l[0].Kind == api.At
		if at {
			r.At, l, ends = l[0].Text, l[1:], append(ends, api.Semi)
		}
		i := firstTop(l, ends...)
		r.Head = trim(l[:i])
		l = l[i:]
		if len(l) > 0 && l[0].Kind == api.OpenCu {
			i = closes(l, 0)
			r.Body, r.Block = l[1:i], true
			l = l[i:]
		}
		if len(l) > 0 {
			l = l[1:]
		}
		if at || r.Block {
			all = append(all, r)
		}
	}
}

// behind is what stands behind the Spaces at the beginning.
func behind(l []api.Token) []api.Token {
	if i := slices.IndexFunc(l, func(k api.Token) bool { return k.Kind != api.Space }); i >= 0 {
		return l[i:]
	}
	return nil
}

// written answers a list as a text with a byte for each token.
func written(l []api.Token) string {
	var s []byte
	for _, k := range l {
		c := byte('x')
		switch {
		case k.Kind == api.Ident && k.Text == "important":
			c = 'I'
		case k.Kind == api.Ident:
			c = 'i'
		case k.Kind == api.Space:
			c = ' '
		case k.Kind == api.Colon:
			c = ':'
		case k.Kind == api.BadStr:
			c = '?'
		case k.Kind == api.Delim && k.Text == "!":
			c = '!'
		}
		s = append(s, c)
	}
	return string(s)
}

var (
	// plain is the form of a declaration, marked that of a value which is important.
	plain  = regexp.MustCompile(`^ *([iI]) *:( *(.*?) *)$`)
	marked = regexp.MustCompile(`^(.*?) *! *I$`)
)

// declsOf is Decls by the chapter's words.
func declsOf(l []api.Token) []api.RawDecl {
	var all []api.RawDecl
pieces:
	for _, piece := range split(l, api.Semi) {
		m := plain.FindStringSubmatchIndex(written(piece))
		if m == nil {
			continue
		}
		d := api.RawDecl{Name: piece[m[2]].Text, Value: piece[m[6]:m[7]]}
		if m := marked.FindStringSubmatchIndex(written(d.Value)); m != nil {
			d.Important, d.Value = true, d.Value[:m[3]]
		}
		if len(d.Value) == 0 {
			continue
		}
		at := top(d.Value)
		for i, c := range written(d.Value) {
			if c == '?' || c == '!' && at[i] {
				continue pieces
			}
		}
		all = append(all, d)
	}
	return all
}

// TestExamples: the chapter's own.
func TestExamples(t *testing.T) {
	l := syntax.Rules(cut(t, "a { b: c; d } @e; f"))
	body := cut(t, " b: c; d ")
	if !slices.EqualFunc(l, []api.Raw{{Head: cut(t, "a"), Body: body, Block: true}, {At: "e"}}, sameRaw) {
		t.Error(l)
	}
	if d := syntax.Decls(body); !slices.EqualFunc(d, []api.RawDecl{{Name: "b", Value: cut(t, "c")}}, sameDecl) {
		t.Error(d)
	}
	if i := syntax.Match([]api.Token{sign(api.Open), sign(api.OpenSq), sign(api.Close), sign(api.CloseSq), sign(api.Close)}, 0); i != 4 {
		t.Error(i)
	}
}

// raw is a rule with its parts as texts.
type raw struct {
	at, head, body string
	block          bool
}

// TestRules: P6.2.
func TestRules(t *testing.T) {
	for s, want := range map[string][]raw{
		"": nil, " ": nil, "/**/ /**/ ": nil,
		"a{}": {{head: "a", block: true}}, " a { } ": {{head: "a", body: " ", block: true}}, "a b , c { d:e }": {{head: "a b , c", body: " d:e ", block: true}},
		"a{}b{}": {{head: "a", block: true}, {head: "b", block: true}}, " a{} \n b{} ": {{head: "a", block: true}, {head: "b", block: true}},
		// Without a head, and with one that is none of a rule without At.
		"{}": {{block: true}}, "{a}{b}": {{body: "a", block: true}, {body: "b", block: true}}, ";a{}": {{head: ";a", block: true}}, "}a{}": {{head: "}a", block: true}}, "a;b{}": {{head: "a;b", block: true}}, "a{}}b{}": {{head: "a", block: true}, {head: "}b", block: true}}, "a @b{}": {{head: "a @b", block: true}}, "a@b;{}": {{head: "a@b;", block: true}},
		// Without At and without a block it is left out.
		"a": nil, "a;": nil, "a;b;c": nil, ";": nil, "}": nil, "a{}b": {{head: "a", block: true}}, "a b;@c;": nil, "(a{})": nil, "a(": nil, "a(b{}c{}": nil, "a)b": nil,
		// With an At it goes to a Semi, to a block or to the end.
		"@a": {{at: "a"}}, "@a;": {{at: "a"}}, "@a b;": {{at: "a", head: "b"}}, "@a b": {{at: "a", head: "b"}}, "@a b ;c{}": {{at: "a", head: "b"}, {head: "c", block: true}}, "@a{}": {{at: "a", block: true}}, "@a b { c } d{}": {{at: "a", head: "b", body: " c ", block: true}, {head: "d", block: true}}, "@a;@b;;c{}": {{at: "a"}, {at: "b"}, {head: ";c", block: true}}, "@a @b;": {{at: "a", head: "@b"}}, "@a}b;": {{at: "a", head: "}b"}}, "@a{};b{}": {{at: "a", block: true}, {head: ";b", block: true}}, " @a ": {{at: "a"}},
		// Only what is at the top ends a head.
		"@a(;{});b{}": {{at: "a", head: "(;{})"}, {head: "b", block: true}}, "@a[;];": {{at: "a", head: "[;]"}}, "@a f(;){;}": {{at: "a", head: "f(;)", body: ";", block: true}}, "a({}){}": {{head: "a({})", block: true}}, "a[{]{}": nil, "@a[{];": {{at: "a", head: "[{];"}}, "@a(b;c{}": {{at: "a", head: "(b;c{}"}}, "a]{}": {{head: "a]", block: true}}, "a)(;){}": {{head: "a)(;)", block: true}},
		// A block goes up to what closes it, or to the end.
		"a{b{c}d}e{}": {{head: "a", body: "b{c}d", block: true}, {head: "e", block: true}}, "a{": {{head: "a", block: true}}, "a{b": {{head: "a", body: "b", block: true}}, "a{ b ": {{head: "a", body: " b ", block: true}}, "a{b{c}d{}": {{head: "a", body: "b{c}d{}", block: true}}, "a{(}b{}": {{head: "a", body: "(}b{}", block: true}}, "a{(})}b{}": {{head: "a", body: "(})", block: true}, {head: "b", block: true}}, "a{)}b{}": {{head: "a", body: ")", block: true}, {head: "b", block: true}}, "@a{;}": {{at: "a", body: ";", block: true}}, "@a{": {{at: "a", block: true}},
	} {
		var all []api.Raw
		for _, w := range want {
			all = append(all, api.Raw{At: w.at, Head: cut(t, w.head), Body: cut(t, w.body), Block: w.block})
		}
		if got := syntax.Rules(cut(t, s)); !slices.EqualFunc(got, all, sameRaw) {
			t.Errorf("%q: %v, not %v", s, got, all)
		}
	}
}

// TestRulesAt: P6.2: a rule with an At without Text is one with an At.
func TestRulesAt(t *testing.T) {
	a, b := ident("a"), ident("b")
	for _, c := range []struct {
		l    []api.Token
		want []api.Raw
	}{
		{[]api.Token{at("")}, []api.Raw{{}}},
		{[]api.Token{at(""), a, sign(api.Semi), b, sign(api.OpenCu)}, []api.Raw{{Head: []api.Token{a}}, {Head: []api.Token{b}, Block: true}}},
		{[]api.Token{at(""), a, sign(api.OpenCu), b}, []api.Raw{{Head: []api.Token{a}, Body: []api.Token{b}, Block: true}}},
		{[]api.Token{sign(api.Space), at(""), sign(api.Space)}, []api.Raw{{}}},
		// A Delim @ is no At.
		{[]api.Token{delim("@"), a, sign(api.Semi)}, nil},
	} {
		if got := syntax.Rules(c.l); !slices.EqualFunc(got, c.want, sameRaw) {
			t.Errorf("%v: %v, not %v", c.l, got, c.want)
		}
	}
}

// TestRulesReckoned: P6.2 of many lists.
func TestRulesReckoned(t *testing.T) {
	many(func(l []api.Token) {
		if got, want := syntax.Rules(l), rulesOf(l); !slices.EqualFunc(got, want, sameRaw) {
			t.Fatalf("%v: %v, not %v", l, got, want)
		}
	})
}

// decl is a declaration with its value as a text.
type decl struct {
	name, value string
	important   bool
}

// TestDecls: P6.3.
func TestDecls(t *testing.T) {
	for s, want := range map[string][]decl{
		"": nil, " ": nil, ";": nil, " ; ; ": nil,
		"a:b": {{"a", "b", false}}, " a : b ": {{"a", "b", false}}, "a:b c  d": {{"a", "b c d", false}}, "a:b;c:d": {{"a", "b", false}, {"c", "d", false}}, "a:b;;a:b; ": {{"a", "b", false}, {"a", "b", false}}, "A-b:1px": {{"A-b", "1px", false}}, "a/**/ /**/ :/**/b": {{"a", "b", false}},
		// Another form is none.
		"a": nil, "a b": nil, "a:": nil, "a: ": nil, ":b": nil, "a b:c": nil, "1:b": nil, "a=b": nil, "@a:b": nil, "#a:b": nil, "'a':b": nil, "f(:b": nil, ".a:b": nil, "(a:b)": nil, "a,b:c": nil, "1a:b": nil, "1%:b": nil,
		// What stands in a value is not asked.
		"a::": {{"a", ":", false}}, "a:b:c": {{"a", "b:c", false}}, "a:)": {{"a", ")", false}}, "a:}b{": {{"a", "}b{", false}}, "a:{b:c;d:e};f:g": {{"a", "{b:c;d:e}", false}, {"f", "g", false}}, "a:f(;);b:c": {{"a", "f(;)", false}, {"b", "c", false}}, "a:(b;c:d": {{"a", "(b;c:d", false}}, "a:@b #c 'd' 5%": {{"a", "@b #c 'd' 5%", false}},
		// Important.
		"a:b!important": {{"a", "b", true}}, "a:b ! important ": {{"a", "b", true}}, "a:b/**/!/**/important": {{"a", "b", true}}, "a: b  c  !important": {{"a", "b c", true}}, "a:b !/**/ /**/ /**/important;c:d": {{"a", "b", true}, {"c", "d", false}}, "a:important": {{"a", "important", false}}, "important:b": {{"important", "b", false}}, "a:b important": {{"a", "b important", false}}, "a:important !important": {{"a", "important", true}},
		"a:!important": nil, "a: ! important ": nil, "a:b!Important": nil, "a:b!importan": nil, "a:b!important c": nil, "a:b!important,": nil, "a:b!'important'": nil, "a:b!important(": nil, "a:b!important!important": nil, "a:b!!important": nil, "a!important:b": nil, "!important": nil,
		// A ! at the top.
		"a:!": nil, "a:b!": nil, "a:!b": nil, "a:b ! c": nil, "a:)!": nil, "a:(!)!": nil, "a:(b)!c": nil, "a:(!)": {{"a", "(!)", false}}, "a:f(!)b": {{"a", "f(!)b", false}}, "a:[!]{!}": {{"a", "[!]{!}", false}}, "a:(!": {{"a", "(!", false}}, "a:([)!])": {{"a", "([)!])", false}}, "a:(!)!important": {{"a", "(!)", true}},
		// What is important is so within an opening, too.
		"a:(b!important": {{"a", "(b", true}}, "a:(!!important": {{"a", "(!", true}}, "a:(b!important)": {{"a", "(b!important)", false}},
		// A BadStr, wherever it stands.
		"a:'b\n": nil, "a:b 'c\n d": nil, "a:('b\n)": nil, "a:{['b\n]}": nil, "a:'b\n!important": nil, "a:b;c:'d\n;e:f": {{"a", "b", false}, {"e", "f", false}}, "'a\n:b": nil, "a 'c\n:b": nil, "a:'b": {{"a", "'b", false}},
		// What is wrong is left out, and what stands behind it is not.
		"a;b:c": {{"b", "c", false}}, "a:;b:c": {{"b", "c", false}}, "a:!;b:c;d;e:f": {{"b", "c", false}, {"e", "f", false}}, "};a:b": {{"a", "b", false}}, "a{b:c};d:e": {{"d", "e", false}}, "{a:b;c:d": nil,
	} {
		var all []api.RawDecl
		for _, w := range want {
			all = append(all, api.RawDecl{Name: w.name, Value: cut(t, w.value), Important: w.important})
		}
		if got := syntax.Decls(cut(t, s)); !slices.EqualFunc(got, all, sameDecl) {
			t.Errorf("%q: %v, not %v", s, got, all)
		}
	}
}

// TestDeclsMade: P6.3 of tokens that no text is cut into: their kinds and texts count, nothing else.
func TestDeclsMade(t *testing.T) {
	colon, a, s := sign(api.Colon), ident("a"), sign(api.Space)
	bang, mark := api.Token{Kind: api.Delim, Text: "!", N: 3}, api.Token{Kind: api.Ident, Text: "important", N: 5}
	for _, c := range []struct {
		l    []api.Token
		want []api.RawDecl
	}{
		{[]api.Token{ident(""), colon, a}, []api.RawDecl{{Value: []api.Token{a}}}},
		{[]api.Token{s, s, a, s, s, colon, s, s, a, s, s, bang, s, s, mark, s, s}, []api.RawDecl{{Name: "a", Value: []api.Token{a}, Important: true}}},
		{[]api.Token{a, colon, bang}, nil}, {[]api.Token{a, colon, bang, mark}, nil}, {[]api.Token{a, colon, delim("!!")}, []api.RawDecl{{Name: "a", Value: []api.Token{delim("!!")}}}},
		{[]api.Token{a, colon, ident("!")}, []api.RawDecl{{Name: "a", Value: []api.Token{ident("!")}}}},
		{[]api.Token{a, colon, a, bang, delim("important")}, nil}, {[]api.Token{a, colon, {}}, []api.RawDecl{{Name: "a", Value: []api.Token{{}}}}},
	} {
		if got := syntax.Decls(c.l); !slices.EqualFunc(got, c.want, sameDecl) {
			t.Errorf("%v: %v, not %v", c.l, got, c.want)
		}
	}
}

// TestDeclsReckoned: P6.3 of many lists, and of many that are like declarations.
func TestDeclsReckoned(t *testing.T) {
	check := func(l []api.Token) {
		if got, want := syntax.Decls(l), declsOf(l); !slices.EqualFunc(got, want, sameDecl) {
			t.Fatalf("%v: %v, not %v", l, got, want)
		}
	}
	many(check)
	values := []api.Token{ident("a"), ident("important"), delim("!"), {Kind: api.BadStr}, sign(api.Space), sign(api.Open), sign(api.Close), sign(api.Semi), sign(api.Colon)}
	lists(values, 5, func(l []api.Token) {
		check(slices.Concat([]api.Token{ident("a"), sign(api.Colon)}, l))
	})
}

// TestDeclsApart: P6.4 of declarations: a list, a Semi and a list are those of both.
func TestDeclsApart(t *testing.T) {
	some := 0
	check := func(first, second []api.Token) {
		for i := range first {
			if closingOf(first[i]) != 0 && closes(first, i) == len(first) {
				return
			}
		}
		some++
		want := append(syntax.Decls(first), syntax.Decls(second)...)
		if got := syntax.Decls(slices.Concat(first, []api.Token{sign(api.Semi)}, second)); !slices.EqualFunc(got, want, sameDecl) {
			t.Fatalf("%v and %v: %v, not %v", first, second, got, want)
		}
	}
	pairs(check)
	if some < 10000 {
		t.Errorf("only %d pairs", some)
	}
	// Wrong ones ahead and behind.
	for _, s := range []string{"a", "a:", ":", "}", ")]", "a:!", "a:'b\n", "@a{;}", "f(;)", ""} {
		check(cut(t, s), cut(t, "b:c"))
		check(cut(t, "b:c"), cut(t, s))
		if got := syntax.Decls(cut(t, s+";b:c;"+s)); !slices.EqualFunc(got, []api.RawDecl{{Name: "b", Value: cut(t, "c")}}, sameDecl) {
			t.Errorf("%q around: %v", s, got)
		}
	}
}

// TestRulesApart: P6.4 of rules: a list whose last rule has a block that is closed, and a list, are those of both.
func TestRulesApart(t *testing.T) {
	some := 0
	pairs(func(first, second []api.Token) {
		if !ended(first) {
			return
		}
		some++
		want := append(syntax.Rules(first), syntax.Rules(second)...)
		if got := syntax.Rules(slices.Concat(first, second)); !slices.EqualFunc(got, want, sameRaw) {
			t.Fatalf("%v and %v: %v, not %v", first, second, got, want)
		}
	})
	if some < 1000 {
		t.Errorf("only %d pairs", some)
	}
	for _, s := range []string{"@a{}", "a{:;!'b\n}", "{}", "a{)}", "@{}", "};{b:}"} {
		want := append(syntax.Rules(cut(t, s)), api.Raw{Head: cut(t, "c"), Body: cut(t, "d:e"), Block: true})
		if got := syntax.Rules(cut(t, s+"c{d:e}")); !slices.EqualFunc(got, want, sameRaw) {
			t.Errorf("%q ahead: %v, not %v", s, got, want)
		}
	}
}

// ended tells whether the last rule of a list has a block that is closed.
func ended(l []api.Token) bool {
	l = trim(l)
	for len(l) > 0 {
		ends := []int{api.OpenCu}
		if l[0].Kind == api.At {
			ends = append(ends, api.Semi)
		}
		i := firstTop(l, ends...)
		if i == len(l) {
			return false
		}
		if l[i].Kind == api.OpenCu {
			i = closes(l, i)
			if i >= len(l)-1 {
				return i == len(l)-1
			}
		}
		l = trim(l[i+1:])
	}
	return false
}

// pairs hands over lists, two by two.
func pairs(take func(first, second []api.Token)) {
	var short, long [][]api.Token
	lists(alphabet(), 2, func(l []api.Token) { short = append(short, l) })
	longLists(6000, func(l []api.Token) { long = append(long, l) })
	for _, first := range short {
		for _, second := range short {
			take(first, second)
		}
	}
	for i := 1; i < len(long); i++ {
		take(long[i-1], long[i])
		take(slices.Concat(long[i-1], []api.Token{sign(api.OpenCu), sign(api.CloseCu)}), long[i])
	}
}

// TestReadNew: what is handed in stays as it is, and what is answered is new: no two lists share anything.
func TestReadNew(t *testing.T) {
	longLists(1000, func(l []api.Token) {
		was := slices.Clone(l)
		var got [][]api.Token
		for range 2 {
			for _, r := range syntax.Rules(l) {
				got = append(got, r.Head, r.Body)
			}
			for _, d := range syntax.Decls(l) {
				got = append(got, d.Value)
			}
		}
		apart(t, l, was, got)
	})
}
