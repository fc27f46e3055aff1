package lex_test

import (
	"math"
	"regexp"
	"slices"
	"strings"
	"testing"

	"wainscot/api"
	"wainscot/fix"
	"wainscot/lex"
)

const (
	least = math.MinInt
	most  = math.MaxInt
	end   = api.MaxNum
)

// chance hands out numbers that look like chance, the same ones in every run.
type chance uint64

func (c *chance) below(n int) int {
	*c = *c*6364136223846793005 + 1442695040888963407
	return int(uint64(*c)>>33) % n
}

// The makers of tokens.

func ident(s string) api.Token      { return api.Token{Kind: api.Ident, Text: s} }
func fun(s string) api.Token        { return api.Token{Kind: api.Func, Text: s} }
func at(s string) api.Token         { return api.Token{Kind: api.At, Text: s} }
func hash(s string) api.Token       { return api.Token{Kind: api.Hash, Text: s} }
func str(s string) api.Token        { return api.Token{Kind: api.Str, Text: s} }
func bad(s string) api.Token        { return api.Token{Kind: api.BadStr, Text: s} }
func num(n int) api.Token           { return api.Token{Kind: api.Num, N: n} }
func pct(n int) api.Token           { return api.Token{Kind: api.Pct, N: n} }
func dim(n int, s string) api.Token { return api.Token{Kind: api.Dim, N: n, Text: s} }
func delim(s string) api.Token      { return api.Token{Kind: api.Delim, Text: s} }
func sign(kind int) api.Token       { return api.Token{Kind: kind} }
func space() api.Token              { return api.Token{Kind: api.Space} }

type list []api.Token

// piece is one of the document's rules of what comes next, as a form, and what is made of its groups.
type piece struct {
	form *regexp.Regexp
	make func(g []string) list
}

// pieces are the document's rules in their order. Forms go by runes, so they are of texts that have a rune for each byte.
func pieces() []piece {
	const (
		begin = `(?:[a-zA-Z_\x{80}-\x{ff}]|-[-a-zA-Z_\x{80}-\x{ff}])`
		of    = `[-0-9a-zA-Z_\x{80}-\x{ff}]`
		name  = `(` + begin + of + `*)`
		n     = `([-+]?(?:[0-9]+(?:\.[0-9]+)?|\.[0-9]+))`
	)
	var l []piece
	put := func(form string, make func(g []string) list) {
		l = append(l, piece{regexp.MustCompile(`^(?s:` + form + `)`), make})
	}
	text := func(kind int) func(g []string) list {
		return func(g []string) list { return list{{Kind: kind, Text: g[1]}} }
	}
	number := func(kind int) func(g []string) list {
		return func(g []string) list {
			v, _ := fix.Parse(g[1])
			return list{{Kind: kind, N: v, Text: strings.Join(g[2:], "")}}
		}
	}
	put(`/\*.*?(?:\*/|\z)`, func([]string) list { return nil })
	put(`[\x09\x0a\x0c\x0d\x20]+`, func([]string) list { return list{space()} })
	put(`"([^"\n]*)(?:"|\z)`, text(api.Str))
	put(`'([^'\n]*)(?:'|\z)`, text(api.Str))
	// Ahead of the byte 10, which is not passed over.
	put(`["']([^\n]*)`, text(api.BadStr))
	put(n+`%`, number(api.Pct))
	put(n+name, number(api.Dim))
	put(n, number(api.Num))
	put(`#(`+of+`+)`, text(api.Hash))
	put(`@`+name, text(api.At))
	put(name+`\(`, text(api.Func))
	put(name, text(api.Ident))
	for i, c := range []string{":", ";", ",", `\(`, `\)`, `\[`, `\]`, `\{`, `\}`} {
		put(c, func([]string) list { return list{sign(api.Colon + i)} })
	}
	put(`(.)`, text(api.Delim))
	return l
}

// wide answers a text with a rune for each byte of s, narrow what wide was made of.
func wide(s string) string {
	var l []rune
	for i := range len(s) {
		l = append(l, rune(s[i]))
	}
	return string(l)
}

func narrow(s string) string {
	var l []byte
	for _, r := range s {
		l = append(l, byte(r))
	}
	return string(l)
}

// reckoned is what a text is cut into, by the document's rules.
func reckoned(forms []piece, s string) []api.Token {
	var l []api.Token
	rest := wide(s)
next:
	for rest != "" {
		for _, p := range forms {
			g := p.form.FindStringSubmatch(rest)
			if g == nil {
				continue
			}
			rest = rest[len(g[0]):]
			for _, t := range p.make(g) {
				t.Text = narrow(t.Text)
				l = append(l, t)
			}
			continue next
		}
		panic("no rule fits " + s)
	}
	return l
}

// cutInto fails if s is not cut into just these.
func cutInto(t *testing.T, s string, want ...api.Token) {
	t.Helper()
	if got, e := lex.Lex(s); e != api.OK || !slices.Equal(got, want) {
		t.Errorf("%q is cut into %v, %d, not %v", s, got, e, want)
	}
}

// TestExamples: the chapter's own.
func TestExamples(t *testing.T) {
	cutInto(t, "a:1.5px", ident("a"), sign(api.Colon), dim(1500, "px"))
	cutInto(t, "-5", num(-5000))
	cutInto(t, "-a", ident("-a"))
	if s, e := lex.Print([]api.Token{num(1000), dim(2000, "px")}); s != "1/**/2px" || e != api.OK {
		t.Error(s, e)
	}
}

// TestComments: P5.1, rule 1.
func TestComments(t *testing.T) {
	for _, s := range []string{"", "/**/", "/* a */", "/*", "/*a", "/*/", "/***/", "/**", "/*\n*/", "/* /* */", "/**//**/", "/*\"*/", "/*'", "/* *"} {
		cutInto(t, s)
	}
	cutInto(t, "a/**/b", ident("a"), ident("b"))
	cutInto(t, "a/* x */b/* y */c", ident("a"), ident("b"), ident("c"))
	// The first */ ends it, what begins in it does not.
	cutInto(t, "/*/**/*/", delim("*"), delim("/"))
	cutInto(t, "/*/a*/b", ident("b"))
	cutInto(t, "/*'*/'", str(""))
	cutInto(t, "1/**/2", num(1000), num(2000))
	cutInto(t, "a/**/(", ident("a"), sign(api.Open))
	cutInto(t, "1/**/px", num(1000), ident("px"))
	cutInto(t, "#/**/a", delim("#"), ident("a"))
	cutInto(t, " /**/ ", space(), space())
	cutInto(t, "/ *", delim("/"), space(), delim("*"))
	cutInto(t, "//", delim("/"), delim("/"))
	cutInto(t, "*/", delim("*"), delim("/"))
	cutInto(t, "//**/*", delim("/"), delim("*"))
}

// TestBlanks: P5.1, rule 2.
func TestBlanks(t *testing.T) {
	for _, s := range []string{" ", "\t", "\n", "\f", "\r", "  ", " \t\n\f\r ", "\r\n"} {
		cutInto(t, s, space())
		cutInto(t, "a"+s+"b", ident("a"), space(), ident("b"))
	}
	// Byte 11 is no blank, nor is one of two bytes.
	cutInto(t, "\v", delim("\v"))
	cutInto(t, " \v ", space(), delim("\v"), space())
	cutInto(t, "\u00a0", ident("\u00a0"))
	cutInto(t, "\x00\x1f", delim("\x00"), delim("\x1f"))
}

// TestQuotes: P5.1, rule 3.
func TestQuotes(t *testing.T) {
	for _, c := range []struct {
		s    string
		want list
	}{
		{`""`, list{str("")}}, {`''`, list{str("")}}, {`"a"`, list{str("a")}}, {`'a'`, list{str("a")}},
		{`"'"`, list{str("'")}}, {`'"'`, list{str(`"`)}}, {`"a'`, list{str("a'")}}, {`"a'b"c`, list{str("a'b"), ident("c")}},
		// Without a closing quote it goes to the end.
		{`"`, list{str("")}}, {`'`, list{str("")}}, {`"a`, list{str("a")}}, {`'a b;`, list{str("a b;")}},
		// A byte 10 ahead of the quote, or of the end, is not passed over.
		{"\"a\n", list{bad("a"), space()}}, {"'a\nb", list{bad("a"), space(), ident("b")}}, {"\"\n\"", list{bad(""), space(), str("")}}, {"\"a\n\"b", list{bad("a"), space(), str("b")}},
		{"'a\n 'b\n", list{bad("a"), space(), bad("b"), space()}}, {"\"'\n", list{bad("'"), space()}}, {"\"a\"\n", list{str("a"), space()}}, {"'\n\n'", list{bad(""), space(), str("")}},
		// Other blanks stand in it, a comment does, and a \ says nothing.
		{"\"a\rb\"", list{str("a\rb")}}, {"\"\t\f\"", list{str("\t\f")}}, {"'/*'*/", list{str("/*"), delim("*"), delim("/")}}, {`"\"a`, list{str(`\`), ident("a")}}, {`'\'`, list{str(`\`)}},
		{"\"\x00\xff\"", list{str("\x00\xff")}}, {`"a""b"`, list{str("a"), str("b")}},
	} {
		cutInto(t, c.s, c.want...)
	}
}

// TestNumbers: P5.1, rule 4.
func TestNumbers(t *testing.T) {
	for s, n := range map[string]int{
		"0": 0, "1": 1000, "12": 12000, "+1": 1000, "-1": -1000, "1.5": 1500, ".5": 500, "+.5": 500, "-.5": -500, "-0": 0, "007": 7000, "1.23456": 1234, "-1.23456": -1234, "0.0009": 0, "-0.0009": 0,
		"1073741.824": end, "1073741.825": end, "99999999999999999999": end, "-99999999999999999999": -end, "1073741.823": end - 1, "-1073741.824": -end, "1.00000000000000000000000000000001": 1000,
	} {
		cutInto(t, s, num(n))
		cutInto(t, s+"%", pct(n))
		cutInto(t, s+"px", dim(n, "px"))
		cutInto(t, s+" ", num(n), space())
		cutInto(t, s+" %", num(n), space(), delim("%"))
		cutInto(t, s+"/**/%", num(n), delim("%"))
		cutInto(t, s+"-", num(n), delim("-"))
		cutInto(t, s+"--", dim(n, "--"))
		cutInto(t, s+"(", num(n), sign(api.Open))
	}
	for _, c := range []struct {
		s    string
		want list
	}{
		// A point without a digit behind it, or a sign without a number, is none of a number.
		{"1.", list{num(1000), delim(".")}}, {".", list{delim(".")}}, {"+", list{delim("+")}}, {"-", list{delim("-")}}, {"+.", list{delim("+"), delim(".")}}, {"-.", list{delim("-"), delim(".")}}, {"1.a", list{num(1000), delim("."), ident("a")}}, {"1..5", list{num(1000), delim("."), num(500)}}, {"1...", list{num(1000), delim("."), delim("."), delim(".")}},
		{"1.5.5", list{num(1500), num(500)}}, {"1.5.", list{num(1500), delim(".")}}, {"1+2", list{num(1000), num(2000)}}, {"1-2", list{num(1000), num(-2000)}}, {"+-1", list{delim("+"), num(-1000)}}, {"-+1", list{delim("-"), num(1000)}}, {"++1", list{delim("+"), num(1000)}}, {"--1", list{ident("--1")}}, {"+a", list{delim("+"), ident("a")}}, {"+ 1", list{delim("+"), space(), num(1000)}},
		// The unit is a name, as long as may be.
		{"1e5", list{dim(1000, "e5")}}, {"1e-5", list{dim(1000, "e-5")}}, {"1e+5", list{dim(1000, "e"), num(5000)}}, {"1-a", list{dim(1000, "-a")}}, {"1--1", list{dim(1000, "--1")}}, {"1-1a", list{num(1000), dim(-1000, "a")}}, {"1_", list{dim(1000, "_")}}, {"1\xff", list{dim(1000, "\xff")}}, {"1px2", list{dim(1000, "px2")}}, {"1px(", list{dim(1000, "px"), sign(api.Open)}}, {"1px%", list{dim(1000, "px"), delim("%")}}, {"1%px", list{pct(1000), ident("px")}}, {"1%%", list{pct(1000), delim("%")}}, {"1%2", list{pct(1000), num(2000)}},
		{"1" + strings.Repeat("x", 100), list{dim(1000, strings.Repeat("x", 100))}}, {"1.5em.5em", list{dim(1500, "em"), dim(500, "em")}}, {"16/9", list{num(16000), delim("/"), num(9000)}},
	} {
		cutInto(t, c.s, c.want...)
	}
}

// TestNames: P5.1, rules 5 to 7.
func TestNames(t *testing.T) {
	long := strings.Repeat("n", api.MaxName+1)
	for _, s := range []string{"a", "Z", "_", "\x80", "\xff", "é", "-a", "-_", "-\x80", "--", "---", "-a-", "--1", "a1", "a-1", "a_", "a--", long, "-" + long, "px", "\xc3"} {
		cutInto(t, s, ident(s))
		cutInto(t, s+"(", fun(s))
		cutInto(t, s+"((", fun(s), sign(api.Open))
		cutInto(t, s+" (", ident(s), space(), sign(api.Open))
		cutInto(t, "@"+s, at(s))
		cutInto(t, "@"+s+"(", at(s), sign(api.Open))
		cutInto(t, "#"+s, hash(s))
		cutInto(t, "#"+s+"(", hash(s), sign(api.Open))
		cutInto(t, s+"."+s, ident(s), delim("."), ident(s))
		cutInto(t, s+"%", ident(s), delim("%"))
		cutInto(t, s+"#"+s+"@"+s, ident(s), hash(s), at(s))
	}
	// Behind # a byte of names is enough, behind @ it must be a beginning.
	for _, s := range []string{"1", "-", "-1", "12a", "1-"} {
		cutInto(t, "#"+s, hash(s))
	}
	cutInto(t, "@1", delim("@"), num(1000))
	cutInto(t, "@-1", delim("@"), num(-1000))
	cutInto(t, "@-", delim("@"), delim("-"))
	cutInto(t, "@", delim("@"))
	cutInto(t, "@@a", delim("@"), at("a"))
	cutInto(t, "@ a", delim("@"), space(), ident("a"))
	cutInto(t, "#", delim("#"))
	cutInto(t, "##a", delim("#"), hash("a"))
	cutInto(t, "#.5", delim("#"), num(500))
	cutInto(t, "#1.5", hash("1"), num(500))
	cutInto(t, "# a", delim("#"), space(), ident("a"))
	cutInto(t, "-1a", dim(-1000, "a"))
	cutInto(t, "-.5a", dim(-500, "a"))
	cutInto(t, "-", delim("-"))
	cutInto(t, "- a", delim("-"), space(), ident("a"))
	cutInto(t, `\61`, delim(`\`), num(61000))
}

// TestSigns: P5.1, rules 8 and 9.
func TestSigns(t *testing.T) {
	cutInto(t, ":;,()[]{}", sign(api.Colon), sign(api.Semi), sign(api.Comma), sign(api.Open), sign(api.Close), sign(api.OpenSq), sign(api.CloseSq), sign(api.OpenCu), sign(api.CloseCu))
	named := regexp.MustCompile(`^[a-zA-Z_\x{80}-\x{ff}]$`)
	for c := range 256 {
		s := string([]byte{byte(c)})
		want := delim(s)
		switch {
		case strings.Contains("\t\n\f\r ", s):
			want = space()
		case strings.Contains(`"'`, s):
			want = str("")
		case c >= '0' && c <= '9':
			want = num(1000 * (c - '0'))
		case named.MatchString(wide(s)):
			want = ident(s)
		case strings.Contains(":;,()[]{}", s):
			want = sign(api.Colon + strings.Index(":;,()[]{}", s))
		}
		cutInto(t, s, want)
	}
}

// TestLexLong: P5.1: what is too long, and what just is not.
func TestLexLong(t *testing.T) {
	for _, c := range []string{"a", "1", " ", "/", "\"", "/*", ":", "#", "\x80", "-", "\"\n"} {
		s := strings.Repeat(c, api.MaxText+1)
		if l, e := lex.Lex(s[:api.MaxText+1]); l != nil || e != api.ErrLong {
			t.Errorf("%q, too long: %d tokens, %d", c, len(l), e)
		}
		if l, e := lex.Lex(s[:api.MaxText]); e != api.OK || c == ":" && len(l) != api.MaxText {
			t.Errorf("%q, not too long: %d tokens, %d", c, len(l), e)
		}
	}
	cutInto(t, strings.Repeat("a", api.MaxText), ident(strings.Repeat("a", api.MaxText)))
	cutInto(t, strings.Repeat(" ", api.MaxText), space())
	cutInto(t, strings.Repeat("9", api.MaxText), num(end))
	if l, e := lex.Lex(strings.Repeat(";", 1<<20)); l != nil || e != api.ErrLong {
		t.Error(len(l), e)
	}
}

// alphabet has bytes at which something may change.
const alphabet = "ae1.-+/*\"'\n #@%(:;{}_\x80\x00"

// texts hands over all texts of up to n bytes of an alphabet.
func texts(bytes string, n int, take func(s string)) {
	var more func(s string)
	more = func(s string) {
		take(s)
		for i := 0; i < len(bytes) && len(s) < n; i++ {
			more(s + bytes[i:i+1])
		}
	}
	more("")
}

// longTexts hands over texts that look like chance: bytes of the alphabet, and pieces of which several rules make something.
func longTexts(n int, take func(s string)) {
	parts := []string{"/*", "*/", "//", "a", "-", "--", "1", ".", "+", "%", "e", "#", "@", "(", ")", "\"", "'", "\n", " ", "px", "1.5", "-.5", "{", "}", ":", ";", "\xc3\xa9", "\\", "!", "99999999999", "\r", "\v", "name", "[", "]", ",", "<"}
	c := chance(5)
	for range n {
		s := ""
		for range c.below(30) {
			s += parts[c.below(len(parts))]
		}
		take(s)
	}
}

// TestLexReckoned: P5.1, held against the document's rules as forms.
func TestLexReckoned(t *testing.T) {
	forms := pieces()
	check := func(s string) {
		got, e := lex.Lex(s)
		if want := reckoned(forms, s); e != api.OK || !slices.Equal(got, want) {
			t.Fatalf("%q is cut into %v, %d, not %v", s, got, e, want)
		}
	}
	texts(alphabet, 3, check)
	texts("a1.-+/*", 5, check)
	longTexts(20000, check)
}

// TestLexNew: what is answered is new.
func TestLexNew(t *testing.T) {
	first, _ := lex.Lex("a b")
	second, _ := lex.Lex("a b")
	clear(first)
	if !slices.Equal(second, []api.Token{ident("a"), space(), ident("b")}) {
		t.Error(second)
	}
	cutInto(t, "a b", ident("a"), space(), ident("b"))
}
