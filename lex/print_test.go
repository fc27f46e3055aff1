package lex_test

import (
	"slices"
	"strings"
	"testing"

	"wainscot/api"
	"wainscot/fix"
	"wainscot/lex"
)

// textOf is a token's text by the document's words.
func textOf(t api.Token) string {
	n := fix.Print(t.N)
	mark := `"`
	if strings.Contains(t.Text, mark) {
		mark = "'"
	}
	all := map[int]string{
		api.Ident: t.Text, api.Func: t.Text + "(", api.At: "@" + t.Text, api.Hash: "#" + t.Text, api.Str: mark + t.Text + mark, api.Num: n, api.Pct: n + "%", api.Dim: n + t.Text,
		api.Colon: ":", api.Semi: ";", api.Comma: ",", api.Open: "(", api.Close: ")", api.OpenSq: "[", api.CloseSq: "]", api.OpenCu: "{", api.CloseCu: "}", api.Delim: t.Text, api.Space: " ",
	}
	return all[t.Kind]
}

// cutOf is what Lex makes of a short text; that it is right is tested elsewhere.
func cutOf(t *testing.T, s string) []api.Token {
	t.Helper()
	l, e := lex.Lex(s)
	if e != api.OK {
		t.Fatalf("%q: %d", s, e)
	}
	return l
}

// rightTokens are right ones of all kinds, with those that may run into others.
func rightTokens() []api.Token {
	l := list{
		ident("a"), ident("-a"), ident("--"), ident("--1"), ident("e5"), ident("\xff"), ident("-_-"), fun("a"), fun("--"), at("a"), at("--"), hash("a"), hash("1"), hash("-"),
		str(""), str("a"), str("'"), str(`"`), str("/*"), str("\\"), str("\r\x00"), num(0), num(5000), num(-5000), num(500), num(-500), num(1001), num(end), num(-end),
		pct(50000), pct(-1), dim(1000, "px"), dim(-1000, "e5"), dim(500, "--"), dim(0, "-a"), space(),
	}
	for k := api.Colon; k <= api.CloseCu; k++ {
		l = append(l, sign(k))
	}
	for _, c := range []string{"+", "-", ".", "/", "*", "#", "@", "%", "!", ">", "=", "<", "\\", "\x00", "\x7f", "\v"} {
		l = append(l, delim(c))
	}
	return l
}

// wrongTokens are some that are not right.
func wrongTokens() []api.Token {
	l := list{
		{}, {Text: "a"}, {Kind: -1}, {Kind: 21}, {Kind: least}, {Kind: most}, {Kind: 1 << 32, Text: "a"}, {Kind: 1<<32 + api.Ident, Text: "a"},
		// One has a text, but that is not its own.
		ident(""), ident("1"), ident("-"), ident("-1"), ident("a b"), ident("a("), ident("a/**/"), ident("/**/a"), ident(" "), ident("a\x00"), ident("."), ident("#a"), ident("@a"), ident(":"), ident(`"a"`), ident("a.b"), ident("/**/"), ident("/*"),
		fun(""), fun("a("), fun("1"), fun("-"), fun("a "), fun("/*"), at(""), at("1"), at("-"), at("@a"), at("a b"), at("a("), hash(""), hash("#"), hash("a b"), hash("a#"), hash("."), hash("a("),
		str("\n"), str("a\nb"), str(`"'`), str(`'"`), str("\"\n"), bad(""), bad("a"), bad("\n"), num(end + 1), num(-end - 1), num(least), num(most), pct(end + 1), pct(least), dim(end+1, "px"), dim(most, "px"),
		dim(0, ""), dim(1000, "1"), dim(1000, "%"), dim(1000, "-"), dim(1000, "-1"), dim(1000, "("), dim(1000, "px("), dim(1000, " px"), dim(1000, ".5"), dim(1000, "px/**/"), dim(1000, "/**/px"),
		delim(""), delim("a"), delim("1"), delim(":"), delim("{"), delim(" "), delim("++"), delim("\""), delim("'"), delim("/*"), delim("\n"), delim("\xff"), delim("/**/"), delim("+/**/"), delim("/**/+"), delim("é"),
	}
	// A field that is not of the kind is zero.
	for _, t := range rightTokens() {
		if t.Kind != api.Num && t.Kind != api.Pct && t.Kind != api.Dim {
			t.N = 1
			l = append(l, t)
			t.N = least
			l = append(l, t)
		}
		if t.Text == "" && t.Kind != api.Str && t.Kind != api.Num {
			t.N = 0
			t.Text = "a"
			if t.Kind == api.Pct {
				l = append(l, t)
			} else {
				l = append(l, t, api.Token{Kind: t.Kind, Text: textOf(t)})
			}
		}
	}
	return append(l, api.Token{Kind: api.Num, Text: "1", N: 1000}, api.Token{Kind: api.Num, Text: "px", N: 1000}, api.Token{Kind: api.Pct, Text: "%", N: 1000})
}

// TestRight: P5.2.
func TestRight(t *testing.T) {
	for _, k := range rightTokens() {
		if !lex.Right(k) {
			t.Errorf("%v is right", k)
		}
	}
	for _, k := range wrongTokens() {
		if lex.Right(k) {
			t.Errorf("%v is not right", k)
		}
	}
}

// TestRightReckoned: P5.2, of all kinds with texts of all sorts.
func TestRightReckoned(t *testing.T) {
	check := func(k api.Token) {
		s := textOf(k)
		want := s != "" && slices.Equal(cutOf(t, s), []api.Token{k})
		if got := lex.Right(k); got != want {
			t.Fatalf("%v is right: %v, not %v", k, got, want)
		}
	}
	texts(alphabet, 2, func(s string) {
		for kind := -2; kind <= 23; kind++ {
			for _, n := range []int{0, 1, -1, 1500, end, end + 1, least} {
				check(api.Token{Kind: kind, Text: s, N: n})
			}
		}
	})
	longTexts(2000, func(s string) {
		for kind := -2; kind <= 23; kind++ {
			check(api.Token{Kind: kind, Text: s})
		}
	})
}

// TestLongTokens: P5.2: a name has no greatest length, and a token is right whatever a text's greatest length is; what is printed has one.
func TestLongTokens(t *testing.T) {
	for n := api.MaxText - 3; n <= api.MaxText+3; n++ {
		s := strings.Repeat("a", n)
		for _, k := range []api.Token{ident(s), fun(s), at(s), hash(s), str(s), dim(1000, s)} {
			if !lex.Right(k) {
				t.Fatalf("kind %d of %d bytes is right", k.Kind, n)
			}
			want := api.OK
			if len(textOf(k)) > api.MaxText {
				want = api.ErrLong
			}
			got, e := lex.Print([]api.Token{k})
			if e != want || e == api.OK && got != textOf(k) || e != api.OK && got != "" {
				t.Fatalf("kind %d of %d bytes: %d bytes, %d, not %d", k.Kind, n, len(got), e, want)
			}
		}
	}
	if s := strings.Repeat(".", 1<<22); lex.Right(delim(s)) || lex.Right(ident(s)) || !lex.Right(str(s)) {
		t.Error("a long text")
	}
}

// TestPrint: P5.2.
func TestPrint(t *testing.T) {
	for _, c := range []struct {
		l    list
		want string
	}{
		{nil, ""}, {list{}, ""}, {list{ident("a")}, "a"}, {list{fun("a")}, "a("}, {list{at("a")}, "@a"}, {list{hash("1")}, "#1"}, {list{str("a")}, `"a"`}, {list{str("")}, `""`}, {list{str(`"`)}, `'"'`}, {list{str("'")}, `"'"`},
		{list{num(1250)}, "1.25"}, {list{num(-500)}, "-0.5"}, {list{pct(50000)}, "50%"}, {list{dim(1500, "px")}, "1.5px"}, {list{delim(">")}, ">"}, {list{space()}, " "},
		{list{sign(api.Colon), sign(api.Semi), sign(api.Comma), sign(api.Open), sign(api.Close), sign(api.OpenSq), sign(api.CloseSq), sign(api.OpenCu), sign(api.CloseCu)}, ":;,()[]{}"},
		{list{ident("a"), sign(api.Colon), dim(1500, "px"), sign(api.Semi)}, "a:1.5px;"}, {list{ident("a"), space(), ident("b")}, "a b"},
		// What would run into one.
		{list{ident("a"), ident("b")}, "a/**/b"}, {list{ident("a"), num(1000)}, "a/**/1"}, {list{ident("a"), num(-1000)}, "a/**/-1"}, {list{ident("a"), sign(api.Open)}, "a/**/("}, {list{ident("a"), delim("-")}, "a/**/-"}, {list{ident("a"), fun("b")}, "a/**/b("},
		{list{num(1000), num(2000)}, "1/**/2"}, {list{num(1000), ident("px")}, "1/**/px"}, {list{num(1000), delim("%")}, "1/**/%"}, {list{num(1000), pct(2000)}, "1/**/2%"}, {list{num(1000), dim(-2000, "a")}, "1-2a"}, {list{pct(1000), num(2000)}, "1%2"}, {list{dim(1000, "px"), ident("a")}, "1px/**/a"}, {list{num(1000), ident("-a")}, "1/**/-a"},
		{list{delim("+"), num(1000)}, "+/**/1"}, {list{delim("-"), num(1000)}, "-/**/1"}, {list{delim("+"), num(-1000)}, "+-1"}, {list{delim("-"), num(-1000)}, "-/**/-1"}, {list{delim("."), num(1000)}, "./**/1"}, {list{delim("."), num(-1000)}, ".-1"}, {list{delim("-"), ident("a")}, "-/**/a"}, {list{delim("-"), delim("-")}, "-/**/-"}, {list{delim("+"), delim("."), num(5000)}, "+./**/5"},
		{list{delim("/"), delim("*")}, "//**/*"}, {list{delim("*"), delim("/")}, "*/"}, {list{delim("/"), delim("/")}, "//"}, {list{delim("#"), ident("a")}, "#/**/a"}, {list{delim("#"), num(1000)}, "#/**/1"}, {list{delim("#"), delim("-")}, "#/**/-"}, {list{delim("@"), ident("a")}, "@/**/a"}, {list{delim("@"), num(1000)}, "@1"}, {list{delim("@"), delim("-")}, "@-"},
		{list{space(), space()}, " /**/ "}, {list{at("a"), num(1000)}, "@a/**/1"}, {list{hash("a"), hash("b")}, "#a#b"}, {list{hash("a"), ident("b")}, "#a/**/b"},
		{list{num(1000), delim("."), delim(".")}, "1.."}, {list{num(1000), delim("."), num(5000)}, "1./**/5"}, {list{num(1000), delim("-"), delim("-")}, "1-/**/-"}, {list{str("a"), str("b")}, `"a""b"`}, {list{ident("a"), at("b"), hash("c")}, "a@b#c"}, {list{fun("a"), ident("b"), sign(api.Close), ident("c")}, "a(b)c"},
	} {
		if got, e := lex.Print(c.l); got != c.want || e != api.OK {
			t.Errorf("%v: %q, %d, not %q", c.l, got, e, c.want)
		}
	}
}

// printed is what tokens are printed as by the document's words; all of them are right.
func printed(t *testing.T, touch map[[2]api.Token]bool, l []api.Token) string {
	var s string
	for i, k := range l {
		if i > 0 {
			pair := [2]api.Token{l[i-1], k}
			is, known := touch[pair]
			if !known {
				is = slices.Equal(cutOf(t, textOf(pair[0])+textOf(k)), pair[:])
				touch[pair] = is
			}
			if !is {
				s += "/**/"
			}
		}
		s += textOf(k)
	}
	return s
}

// TestPrintReckoned: P5.2 and P5.3, of all pairs and triples of right tokens, and of longer lists.
func TestPrintReckoned(t *testing.T) {
	touch := map[[2]api.Token]bool{}
	check := func(l ...api.Token) {
		want := printed(t, touch, l)
		got, e := lex.Print(l)
		if got != want || e != api.OK {
			t.Fatalf("%v: %q, %d, not %q", l, got, e, want)
		}
		if back := cutOf(t, got); !slices.Equal(back, l) {
			t.Fatalf("%v is printed %q, and that is cut into %v", l, got, back)
		}
	}
	all := rightTokens()
	for _, a := range all {
		check(a)
		for _, b := range all {
			check(a, b)
			for _, c := range all {
				check(a, b, c)
			}
		}
	}
	c := chance(7)
	for range 5000 {
		var l []api.Token
		for range c.below(40) {
			l = append(l, all[c.below(len(all))])
		}
		check(l...)
	}
}

// TestPrintWrong: P5.2: the errors, and which is told first.
func TestPrintWrong(t *testing.T) {
	long := ident(strings.Repeat("a", api.MaxText+1))
	for _, k := range wrongTokens() {
		for _, l := range [][]api.Token{{k}, {k, ident("a")}, {ident("a"), k}, {ident("a"), space(), k, space()}, {long, k}, {k, long}} {
			if got, e := lex.Print(l); got != "" || e != api.ErrToken {
				t.Fatalf("with %v: %q, %d", k, got, e)
			}
		}
	}
	if got, e := lex.Print([]api.Token{long}); got != "" || e != api.ErrLong {
		t.Error(len(got), e)
	}
	many := slices.Repeat([]api.Token{sign(api.Colon)}, api.MaxText)
	if got, e := lex.Print(many); len(got) != api.MaxText || e != api.OK {
		t.Error(len(got), e)
	}
	if got, e := lex.Print(append(many, sign(api.Semi))); got != "" || e != api.ErrLong {
		t.Error(len(got), e)
	}
	if got, e := lex.Print(append(many, bad(""))); got != "" || e != api.ErrToken {
		t.Error(len(got), e)
	}
	// The comments between count: two names of one byte, with one between, are 6.
	for n := range 8 {
		l := []api.Token{str(strings.Repeat("a", api.MaxText-2-n)), ident("b"), ident("c")}
		got, e := lex.Print(l)
		if fits := n >= 6; fits != (e == api.OK) || !fits && (e != api.ErrLong || got != "") || fits && len(got) != api.MaxText-n+6 {
			t.Errorf("%d bytes less: %d bytes, %d", n, len(got), e)
		}
	}
}

// TestPrintKeeps: what is handed in stays as it is, and is not kept.
func TestPrintKeeps(t *testing.T) {
	l := []api.Token{ident("a"), ident("b"), num(1000), num(2000)}
	was := slices.Clone(l)
	first, _ := lex.Print(l)
	if !slices.Equal(l, was) {
		t.Error(l)
	}
	l[0] = ident("c")
	second, _ := lex.Print(was)
	if third, _ := lex.Print(l); first != second || third != "c/**/b/**/1/**/2" {
		t.Error(first, second, third)
	}
}

// TestLexRight: P5.4: of all that a text is cut into only BadStr is not right; without one it is printed, and read as it was (P5.3).
func TestLexRight(t *testing.T) {
	check := func(s string) {
		l := cutOf(t, s)
		odd := false
		for _, k := range l {
			if lex.Right(k) != (k.Kind != api.BadStr) {
				t.Fatalf("%q: %v is right: %v", s, k, lex.Right(k))
			}
			odd = odd || k.Kind == api.BadStr
		}
		back, e := lex.Print(l)
		if odd != (e == api.ErrToken) || !odd && (e != api.OK || !slices.Equal(cutOf(t, back), l)) {
			t.Fatalf("%q is printed %q, %d", s, back, e)
		}
	}
	texts(alphabet, 3, check)
	longTexts(20000, check)
}

// TestLexRightLong: P5.4 of the longest texts: a token is right though its own text is longer than what it was cut from, and than any text may be.
func TestLexRightLong(t *testing.T) {
	for _, c := range []struct {
		from string
		of   func(s string) api.Token
	}{
		{`"`, str}, {"'", str}, {".5", func(s string) api.Token { return dim(500, s) }},
	} {
		name := strings.Repeat("a", api.MaxText-len(c.from))
		k := c.of(name)
		cutInto(t, c.from+name, k)
		if !lex.Right(k) {
			t.Errorf("behind %s it is right", c.from)
		}
		if got, e := lex.Print([]api.Token{k}); got != "" || e != api.ErrLong {
			t.Errorf("behind %s: %d bytes, %d", c.from, len(got), e)
		}
	}
}

// TestParted: P5.5.
func TestParted(t *testing.T) {
	var all []string
	var lists [][]api.Token
	longTexts(400, func(s string) {
		l := cutOf(t, s)
		if p, e := lex.Print(l); e == api.OK {
			all, lists = append(all, p), append(lists, l)
		}
	})
	for _, k := range rightTokens() {
		p, _ := lex.Print([]api.Token{k})
		all, lists = append(all, p), append(lists, []api.Token{k})
	}
	for i, p := range all {
		for j, q := range all {
			for _, between := range []string{"/**/", "/* a\n\"*/"} {
				if got := cutOf(t, p+between+q); !slices.Equal(got, slices.Concat(lists[i], lists[j])) {
					t.Fatalf("%q%s%q is cut into %v", p, between, q, got)
				}
			}
		}
	}
}

// TestAnything: P1: every call ends and none panics, whatever it is given.
func TestAnything(t *testing.T) {
	numbers := []int{least, least + 1, -end - 1, -end, -1, 0, 1, 2, api.BadStr, api.Space, 1000, end, end + 1, most - 1, most, 1 << 32}
	longTexts(300, func(s string) {
		lex.Lex(s)
		var l []api.Token
		for _, kind := range append(numbers, 3, 4, 5, 7, 8, 9, 10, 18, 19) {
			for _, n := range numbers {
				k := api.Token{Kind: kind, Text: s, N: n}
				lex.Right(k)
				l = append(l, k)
			}
		}
		if got, e := lex.Print(l); got != "" || e != api.ErrToken {
			t.Fatalf("%q: %q, %d", s, got, e)
		}
	})
	for _, c := range []string{"a", "/*", "\"", "\n", "1", ".", "-", "\"\n", "'\n\"", "#", "@", "("} {
		s := strings.Repeat(c, 1<<21)
		if l, e := lex.Lex(s); l != nil || e != api.ErrLong {
			t.Fatal(c, len(l), e)
		}
		for kind := api.Ident; kind <= api.Space; kind++ {
			lex.Right(api.Token{Kind: kind, Text: s})
			lex.Print([]api.Token{{Kind: kind, Text: s}, {Kind: kind, Text: s}})
		}
	}
	if got, e := lex.Print(slices.Repeat([]api.Token{ident("a")}, 1<<20)); got != "" || e != api.ErrLong {
		t.Error(len(got), e)
	}
}
