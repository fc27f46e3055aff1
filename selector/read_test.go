package selector_test

import (
	"regexp"
	"slices"
	"strings"
	"testing"

	"wainscot/api"
	"wainscot/lex"
	"wainscot/selector"
	"wainscot/syntax"
	"wainscot/tree"
)

func ident(s string) api.Token { return api.Token{Kind: api.Ident, Text: s} }
func hash(s string) api.Token  { return api.Token{Kind: api.Hash, Text: s} }
func delim(s string) api.Token { return api.Token{Kind: api.Delim, Text: s} }
func sign(kind int) api.Token  { return api.Token{Kind: kind} }

// alphabet has tokens of every kind at which something may change.
func alphabet() []api.Token {
	return []api.Token{
		ident("a"), ident(""), ident("root"), hash("b"), hash(""), hash("1"), delim("."), delim("*"), delim(">"), delim("="),
		sign(api.OpenSq), sign(api.CloseSq), sign(api.Colon), {Kind: api.Str, Text: "c"}, sign(api.Space), sign(api.Comma), {Kind: api.Func, Text: "a"},
	}
}

// lists hands over all lists of up to n tokens of some.
func lists(some []api.Token, n int, take func(l []api.Token)) {
	var more func(l []api.Token)
	more = func(l []api.Token) {
		take(l)
		for i := 0; i < len(some) && len(l) < n; i++ {
			more(append(l[:len(l):len(l)], some[i]))
		}
	}
	more(nil)
}

// written answers a list as a text with a byte for each token.
func written(l []api.Token) string {
	var s []byte
	for _, k := range l {
		c := byte('x')
		switch k.Kind {
		case api.Ident:
			c = 'i'
		case api.Str:
			c = 's'
		case api.Hash, api.Colon, api.OpenSq, api.CloseSq, api.Space:
			c = map[int]byte{api.Hash: '#', api.Colon: ':', api.OpenSq: '[', api.CloseSq: ']', api.Space: ' '}[k.Kind]
		case api.Delim:
			if len(k.Text) == 1 && strings.Contains(".*>+~=", k.Text) {
				c = k.Text[0]
			}
		}
		s = append(s, c)
	}
	return string(s)
}

const (
	simpleForm = `(?:#|\.i|:i|\[ *i *(?:= *[is] *)?\])`
	partForm   = `(?:[i*]` + simpleForm + `*|` + simpleForm + `+)`
	combForm   = `(?: *[>+~] *| +)`
)

var (
	simples = regexp.MustCompile(simpleForm)
	parts   = regexp.MustCompile(partForm)
	whole   = regexp.MustCompile(`^` + partForm + `(?:` + combForm + partForm + `)*$`)
)

// parseOf is Parse by the chapter's words: their forms first, what they tell then.
func parseOf(l []api.Token) ([]api.Selector, api.Errno) {
	var all []api.Selector
	for _, piece := range syntax.Split(l, api.Comma) {
		piece = syntax.Trim(piece)
		if !whole.MatchString(written(piece)) {
			return nil, api.ErrSelector
		}
		var s api.Selector
		end := 0
		for i, at := range parts.FindAllStringIndex(written(piece), -1) {
			p, ok := partOf(piece[at[0]:at[1]])
			if !ok || i == 8 {
				return nil, api.ErrSelector
			}
			if i > 0 {
				comb := strings.Trim(written(piece[end:at[0]]), " ")
				p.Comb = map[string]int{"": 1, ">": 2, "+": 3, "~": 4}[comb]
			}
			end = at[1]
			s.Parts = append(s.Parts, p)
		}
		all = append(all, s)
	}
	return all, api.OK
}

// partOf is what a part of the right form tells, if it may.
func partOf(l []api.Token) (api.Part, bool) {
	var p api.Part
	ok := true
	if l[0].Kind == api.Ident {
		p.Tag = l[0].Text
		ok = p.Tag == "" || tree.Name(p.Tag)
	}
	states := map[string]int{"root": 1, "first-child": 2, "last-child": 4}
	for _, at := range simples.FindAllStringIndex(written(l), -1) {
		k := slices.DeleteFunc(slices.Clone(l[at[0]:at[1]]), func(k api.Token) bool { return k.Kind == api.Space })
		switch k[0].Kind {
		case api.Hash:
			ok = ok && p.ID == "" && (k[0].Text == "" || tree.Name(k[0].Text))
			p.ID = k[0].Text
		case api.Delim:
			ok = ok && tree.Name(k[1].Text)
			p.Classes = append(p.Classes, k[1].Text)
		case api.Colon:
			ok = ok && states[k[1].Text] > 0
			p.States |= states[k[1].Text]
		default:
			test := api.Test{Name: k[1].Text, Equal: len(k) > 3}
			if test.Equal {
				test.Value = k[3].Text
			}
			ok = ok && tree.Name(test.Name) && tree.Text(test.Value)
			p.Tests = append(p.Tests, test)
		}
	}
	return p, ok && len(p.Classes) <= 8 && len(p.Tests) <= 8
}

// reckoned fails if Parse of a list is not as the chapter's words say; it tells whether it was read.
func reckoned(t *testing.T, l []api.Token) bool {
	t.Helper()
	got, e := selector.Parse(l)
	want, e2 := parseOf(l)
	if e != e2 || !selector.Same(got, want) {
		t.Fatalf("%v: %v, %d, not %v, %d", l, got, e, want, e2)
	}
	return e == api.OK
}

// TestExamples: the chapter's own.
func TestExamples(t *testing.T) {
	l, e := selector.Parse(cut(t, "a#b > .c"))
	if e != api.OK || !selector.Same(l, []api.Selector{of(api.Part{Tag: "a", ID: "b"}, api.Part{Comb: api.Child, Classes: []string{"c"}})}) {
		t.Fatal(l, e)
	}
	if w := selector.Weight(l[0]); w != [3]int{1, 1, 1} {
		t.Error(w)
	}
	for s, want := range map[string]string{"[x]": "[x]", "a *.b": "a .b"} {
		l, e := selector.Parse(cut(t, s))
		k, e2 := selector.Print(l)
		if e != api.OK || e2 != api.OK || !slices.Equal(k, cut(t, want)) {
			t.Errorf("%q: %v, %d, %d", s, k, e, e2)
		}
	}
}

// TestParse: P7.2 of texts.
func TestParse(t *testing.T) {
	tag := func(comb int, s string) api.Part { return api.Part{Comb: comb, Tag: s} }
	for s, want := range map[string][]api.Selector{
		"a": {of(tag(0, "a"))}, " a ": {of(tag(0, "a"))}, "*": {of(api.Part{})}, "#a": {of(api.Part{ID: "a"})}, ".a": {of(api.Part{Classes: []string{"a"}})}, "*.a": {of(api.Part{Classes: []string{"a"}})},
		// In any order, and each class and test in its own.
		"a#b.c[d]:root": {of(api.Part{Tag: "a", ID: "b", Classes: []string{"c"}, Tests: []api.Test{{Name: "d"}}, States: 1})}, "a:root[d].c#b": {of(api.Part{Tag: "a", ID: "b", Classes: []string{"c"}, Tests: []api.Test{{Name: "d"}}, States: 1})},
		".b.a.b": {of(api.Part{Classes: []string{"b", "a", "b"}})}, "[b][a=b].c[a][b='']": {of(api.Part{Classes: []string{"c"}, Tests: []api.Test{{Name: "b"}, {Name: "a", Equal: true, Value: "b"}, {Name: "a"}, {Name: "b", Equal: true}}})},
		// States.
		":root": {of(api.Part{States: 1})}, ":first-child": {of(api.Part{States: 2})}, ":last-child": {of(api.Part{States: 4})}, ":last-child:root:last-child": {of(api.Part{States: 5})}, "*:root:root:first-child:last-child": {of(api.Part{States: 7})},
		// Tests.
		"[ a ]": {of(api.Part{Tests: []api.Test{{Name: "a"}}})}, "[ a = b ]": {of(api.Part{Tests: []api.Test{{Name: "a", Equal: true, Value: "b"}}})}, "[a= \"b ]\"]": {of(api.Part{Tests: []api.Test{{Name: "a", Equal: true, Value: "b ]"}}})}, "[a ='b,c']": {of(api.Part{Tests: []api.Test{{Name: "a", Equal: true, Value: "b,c"}}})},
		// Combinators.
		"a b": {of(tag(0, "a"), tag(1, "b"))}, "a  /**/ b": {of(tag(0, "a"), tag(1, "b"))}, "a>b": {of(tag(0, "a"), tag(2, "b"))}, "a /**/ >b": {of(tag(0, "a"), tag(2, "b"))}, "a> b": {of(tag(0, "a"), tag(2, "b"))}, "a + b": {of(tag(0, "a"), tag(3, "b"))}, "a+b": {of(tag(0, "a"), tag(3, "b"))}, "a~b": {of(tag(0, "a"), tag(4, "b"))}, "a ~ b": {of(tag(0, "a"), tag(4, "b"))}, "a b>c+d~e f": {of(tag(0, "a"), tag(1, "b"), tag(2, "c"), tag(3, "d"), tag(4, "e"), tag(1, "f"))}, "* > *": {of(tag(0, ""), tag(2, ""))}, "a .b": {of(tag(0, "a"), api.Part{Comb: 1, Classes: []string{"b"}})}, "a.b": {of(api.Part{Tag: "a", Classes: []string{"b"}})}, "a[b] [c]": {of(api.Part{Tag: "a", Tests: []api.Test{{Name: "b"}}}, api.Part{Comb: 1, Tests: []api.Test{{Name: "c"}}})},
		// Lists.
		"a,b": {of(tag(0, "a")), of(tag(0, "b"))}, " a , b c,a": {of(tag(0, "a")), of(tag(0, "b"), tag(1, "c")), of(tag(0, "a"))}, "a a a a a a a a": {chain(8, tag(0, "a"))},
	} {
		if got, e := selector.Parse(cut(t, s)); e != api.OK || !selector.Same(got, want) {
			t.Errorf("%q: %v, %d, not %v", s, got, e, want)
		}
		reckoned(t, cut(t, s))
	}
}

// TestParseWrong: P7.2: what is no selector, and with it the whole list.
func TestParseWrong(t *testing.T) {
	long := strings.Repeat("a", api.MaxName+1)
	words := strings.Repeat("a", api.MaxWords+1)
	for _, s := range []string{
		"", " ", "/**/", ".", "#", ":", "[", "]", "[]", "[ ]", "1", "'a'", "\"a\n", "@a", "a(", "a()", "(a)", "{a}", "!", "a!", "5px", "a;", "a:", "a.", "a[",
		"> a", "a >", "a > > b", "a>>b", "a > + b", "+", "~ a", "a ~ ~ b", "a/**/b", "a*", "**", "*a", "a.b*", ".a b*", ".ab/**/c", "#a/**/b", "[a]b", ":root/**/a",
		"#a#a", "#a#b", "#a.b#a", "#1", "#" + long, "a#1", ".1", ".-", "..a", ". a", ".a.", ".*", ".#a", ".'a'", "." + long, long, "-",
		":a", ":Root", ": root", "::root", ":root(", ":'root'", ":first", ":last-child-", ":rooted", ":#root", ":*",
		"[1]", "['a']", "[a", "[a=b", "[a=]", "[a = ]", "[=b]", "[a==b]", "[a=b c]", "[a b]", "[a,b]", "[a=1]", "[a=#b]", "[a=b=c]", "[a~=b]", "[a:b]", "[[a]]", "[a]]", "[*]", "[a=*]", "[" + long + "]", "[a=" + words + "]", "[a='" + words + "']", "[a='\x01']", "[a='\"']", "[a=\"b\n]", "[a)", "[a}", "[.a]", "[a=.b]",
		"a b c d e f g h i", "a>b>c>d>e>f>g>h>i", strings.Repeat(".a", 9), strings.Repeat("[a]", 9), "*" + strings.Repeat(".a", 9),
	} {
		for _, list := range []string{s, " " + s + " ", s + ",a", "a," + s, "a, " + s + ",b"} {
			if got, e := selector.Parse(cut(t, list)); e != api.ErrSelector || len(got) != 0 {
				t.Errorf("%q: %v, %d", list, got, e)
			}
		}
		reckoned(t, cut(t, s))
	}
	for _, s := range []string{",", ",,", "a,", ",a", "a,,b", "a, ,b", ", "} {
		if got, e := selector.Parse(cut(t, s)); e != api.ErrSelector || len(got) != 0 {
			t.Errorf("%q: %v, %d", s, got, e)
		}
	}
	for _, l := range [][]api.Token{nil, {}, {sign(api.Space)}} {
		if got, e := selector.Parse(l); e != api.ErrSelector || len(got) != 0 {
			t.Errorf("%v: %v, %d", l, got, e)
		}
	}
}

// TestParseMost: P7.2: just so many are allowed, and names and words just so long.
func TestParseMost(t *testing.T) {
	long := strings.Repeat("a", api.MaxName)
	words := strings.Repeat("a", api.MaxWords)
	marks := strings.Repeat(".a", 8) + strings.Repeat("[a]", 8)
	for _, s := range []string{
		long, "#" + long, "." + long, "[" + long + "]", "[a=" + words + "]", "[a='" + words + "']", "[a='']", strings.Repeat(".a", 8), strings.Repeat("[a=b]", 8), "a#b" + marks + ":root:root:last-child",
		marks + strings.Repeat(" "+marks, 7), strings.Repeat(":root", 1000), strings.Repeat("a,", 1000) + "a",
	} {
		if l := cut(t, s); !reckoned(t, l) {
			t.Errorf("%q is not read", s)
		}
	}
}

// TestParseMade: P7.2 of tokens that no text is cut into.
func TestParseMade(t *testing.T) {
	none, a := of(api.Part{}), ident("a")
	for _, c := range []struct {
		l    []api.Token
		want []api.Selector
	}{
		// A tag without a text, and a Hash ahead of which no Hash tells an ID, tell nothing.
		{[]api.Token{ident("")}, []api.Selector{none}}, {[]api.Token{hash("")}, []api.Selector{none}}, {[]api.Token{ident(""), hash(""), hash("")}, []api.Selector{none}},
		{[]api.Token{hash(""), hash("b")}, []api.Selector{of(api.Part{ID: "b"})}}, {[]api.Token{hash(""), hash(""), delim("."), a, hash("b")}, []api.Selector{of(api.Part{ID: "b", Classes: []string{"a"}})}},
		{[]api.Token{ident(""), sign(api.Space), hash("")}, []api.Selector{of(api.Part{}, api.Part{Comb: 1})}}, {[]api.Token{hash("b"), sign(api.Space), hash("")}, []api.Selector{of(api.Part{ID: "b"}, api.Part{Comb: 1})}},
		{[]api.Token{hash("b"), hash("")}, nil}, {[]api.Token{hash("b"), hash("b")}, nil}, {[]api.Token{hash(""), hash("b"), hash("")}, nil}, {[]api.Token{ident(""), ident("")}, nil}, {[]api.Token{ident(""), a}, nil}, {[]api.Token{hash(""), a}, nil}, {[]api.Token{delim("*"), ident("")}, nil}, {[]api.Token{hash("1")}, nil}, {[]api.Token{hash(""), hash("1")}, nil},
		// Other names have a text.
		{[]api.Token{delim("."), ident("")}, nil}, {[]api.Token{sign(api.Colon), ident("")}, nil}, {[]api.Token{sign(api.OpenSq), ident(""), sign(api.CloseSq)}, nil}, {[]api.Token{delim("")}, nil}, {[]api.Token{a, delim(""), a}, nil}, {[]api.Token{delim(".a")}, nil}, {[]api.Token{a, delim(">+"), a}, nil},
		// A value is words, which may be none.
		{[]api.Token{sign(api.OpenSq), a, delim("="), ident(""), sign(api.CloseSq)}, []api.Selector{of(api.Part{Tests: []api.Test{{Name: "a", Equal: true}}})}}, {[]api.Token{sign(api.OpenSq), a, delim("="), ident("1 ,"), sign(api.CloseSq)}, []api.Selector{of(api.Part{Tests: []api.Test{{Name: "a", Equal: true, Value: "1 ,"}}})}},
		// Kinds and texts count, nothing else.
		{[]api.Token{{Kind: api.Ident, Text: "a", N: 5}, {Kind: api.Delim, Text: ".", N: 1}, a, {Kind: api.Colon, Text: "b", N: 3}, {Kind: api.Ident, Text: "root", N: 4}}, []api.Selector{of(api.Part{Tag: "a", Classes: []string{"a"}, States: 1})}},
		{[]api.Token{a, {Kind: api.Space, Text: ">"}, a}, []api.Selector{of(api.Part{Tag: "a"}, api.Part{Comb: 1, Tag: "a"})}}, {[]api.Token{{}}, nil}, {[]api.Token{a, {}}, nil}, {[]api.Token{{Text: "a"}}, nil}, {[]api.Token{{Kind: api.Func, Text: "a"}}, nil}, {[]api.Token{a, {Kind: api.Colon}, {Kind: api.Func, Text: "root"}}, nil},
	} {
		got, e := selector.Parse(c.l)
		if (e == api.OK) != (c.want != nil) || !selector.Same(got, c.want) {
			t.Errorf("%v: %v, %d, not %v", c.l, got, e, c.want)
		}
		reckoned(t, c.l)
	}
}

// TestParseReckoned: P7.2 of all short lists, and of many that are nearly selectors.
func TestParseReckoned(t *testing.T) {
	lists(alphabet(), 4, func(l []api.Token) { reckoned(t, l) })
	tests := []api.Token{sign(api.OpenSq), ident("a"), delim("="), sign(api.Space), {Kind: api.Str}, sign(api.CloseSq)}
	lists(tests, 6, func(l []api.Token) { reckoned(t, l) })
	combs := []api.Token{ident("a"), delim(">"), delim("+"), delim("~"), sign(api.Space)}
	lists(combs, 6, func(l []api.Token) { reckoned(t, l) })
	c := chance(3)
	read := 0
	for range 20000 {
		var l []api.Token
		for i := range 1 + c.below(2) {
			if i > 0 {
				l = append(l, sign(api.Comma))
			}
			s := someSelector(&c)
			k, _ := selector.Print([]api.Selector{{Parts: s.Parts[:1+c.below(min(3, len(s.Parts)))]}})
			l = append(l, k...)
		}
		for range c.below(3) {
			i := c.below(len(l))
			switch c.below(3) {
			case 0:
				l = slices.Delete(l, i, i+1)
			case 1:
				l = slices.Insert(l, i, oneOf(&c, append(alphabet(), sign(api.Space), sign(api.Space))...))
			default:
				l[i] = oneOf(&c, alphabet()...)
			}
			if len(l) == 0 {
				break
			}
		}
		if reckoned(t, l) {
			read++
		}
	}
	if read < 5000 || read > 15000 {
		t.Errorf("%d are read", read)
	}
}

// TestPrint: P7.3 of what a text tells.
func TestPrint(t *testing.T) {
	for s, want := range map[string]string{
		"a": "a", "*": "*", "*.a": ".a", ".b#a": "#a.b", "a,b": "a, b", "a b": "a b", "a>b": "a > b", "a+b": "a + b", "a~b": "a ~ b", "*>*": "* > *", "* *": "* *", ":last-child:root:first-child": ":root:first-child:last-child",
		"[a]": "[a]", "[ a = b ]": "[a=\"b\"]", "[a='']": "[a=\"\"]", ":root[a][b=c].d.e#f": "#f.d.e[a][b=\"c\"]:root", "a:root .b , c >d": "a:root .b, c > d",
	} {
		l, e := selector.Parse(cut(t, s))
		got, e2 := selector.Print(l)
		if e != api.OK || e2 != api.OK || !slices.Equal(got, cut(t, want)) {
			t.Errorf("%q: %v, %d, %d, not %q", s, got, e, e2, want)
		}
	}
	got, e := selector.Print([]api.Selector{of(api.Part{Tag: "a", ID: "b", Classes: []string{"c"}, Tests: []api.Test{{Name: "d"}, {Name: "e", Equal: true, Value: "f"}}, States: 7}, api.Part{Comb: api.Later}), of(api.Part{Tag: "a"}, api.Part{Comb: api.Beneath, Tag: "b"})})
	want := []api.Token{
		ident("a"), hash("b"), delim("."), ident("c"), sign(api.OpenSq), ident("d"), sign(api.CloseSq), sign(api.OpenSq), ident("e"), delim("="), {Kind: api.Str, Text: "f"}, sign(api.CloseSq),
		sign(api.Colon), ident("root"), sign(api.Colon), ident("first-child"), sign(api.Colon), ident("last-child"), sign(api.Space), delim("~"), sign(api.Space), delim("*"),
		sign(api.Comma), sign(api.Space), ident("a"), sign(api.Space), ident("b"),
	}
	if e != api.OK || !slices.Equal(got, want) {
		t.Error(got, e)
	}
}

// TestPrintWrong: P7.3.
func TestPrintWrong(t *testing.T) {
	a := of(api.Part{Tag: "a"})
	for _, l := range [][]api.Selector{
		nil, {}, {{}}, {a, {}}, {{}, a}, {a, of(api.Part{Comb: 1}), a}, {of(api.Part{Tag: "1"})}, {a, a, of(api.Part{}, api.Part{})}, {of(api.Part{States: 8})}, {a, chain(9, api.Part{})},
	} {
		if got, e := selector.Print(l); e != api.ErrSelector || len(got) != 0 {
			t.Errorf("%v: %v, %d", l, got, e)
		}
	}
	c := chance(13)
	for range 5000 {
		l := []api.Selector{oddSelector(&c), oddSelector(&c)}[:1+c.below(2)]
		want := api.OK
		if slices.ContainsFunc(l, func(s api.Selector) bool { return !rightOf(s) }) {
			want = api.ErrSelector
		}
		if got, e := selector.Print(l); e != want || (e == api.OK) != (len(got) > 0) {
			t.Fatalf("%v: %v, %d", l, got, e)
		}
	}
}

// TestReadAsItWas: P7.4, of tokens and of the text that they are printed as.
func TestReadAsItWas(t *testing.T) {
	c := chance(17)
	for range 5000 {
		var l []api.Selector
		for range 1 + c.below(3) {
			l = append(l, someSelector(&c))
		}
		k, e := selector.Print(l)
		got, e2 := selector.Parse(k)
		if e != api.OK || e2 != api.OK || !selector.Same(got, l) {
			t.Fatalf("%v: %v, read as %v: %d, %d", l, k, got, e, e2)
		}
		s, e := lex.Print(k)
		if e == api.ErrLong {
			continue
		}
		got, e2 = selector.Parse(cut(t, s))
		if e != api.OK || e2 != api.OK || !selector.Same(got, l) {
			t.Fatalf("%q is read as %v: %d, %d", s, got, e, e2)
		}
	}
}

// TestNew: what is handed in stays as it is, and what is answered is new: no two lists share anything.
func TestNew(t *testing.T) {
	c := chance(19)
	for range 500 {
		l := []api.Selector{someSelector(&c), someSelector(&c)}
		k, _ := selector.Print(l)
		again, _ := selector.Print(l)
		tokens := slices.Clone(k)
		got, _ := selector.Parse(k)
		read, _ := selector.Parse(k)
		if !slices.Equal(k, tokens) {
			t.Fatalf("%v was %v", k, tokens)
		}
		spoil(k)
		if !slices.Equal(again, tokens) || !selector.Same(got, l) {
			t.Fatalf("of %v tokens are shared", l)
		}
		for i := range got {
			for n := range got[i].Parts {
				// Spoilt, each list of got leaves all the others as they were.
				spoil(got[i].Parts[n].Classes)
				got[i].Parts[n].Classes = slices.Clone(read[i].Parts[n].Classes)
				spoil(got[i].Parts[n].Tests)
				got[i].Parts[n].Tests = slices.Clone(read[i].Parts[n].Tests)
				if !selector.Same(got, read) {
					t.Fatalf("of %v marks are shared", l)
				}
			}
			spoil(got[i].Parts)
			got[i].Parts = slices.Clone(read[i].Parts)
			if !selector.Same(got, read) {
				t.Fatalf("of %v parts are shared", l)
			}
		}
	}
}

// spoil makes all that a list's memory has zero.
func spoil[T any](l []T) {
	clear(l[:cap(l)])
}
