package value_test

import (
	"math"
	"slices"
	"strings"
	"testing"

	"wainscot/api"
	"wainscot/fix"
	"wainscot/lex"
	"wainscot/tree"
	"wainscot/value"
)

const (
	least = math.MinInt
	most  = math.MaxInt
)

// chance hands out numbers that look like chance, the same ones in every run.
type chance uint64

func (c *chance) below(n int) int {
	*c = *c*6364136223846793005 + 1442695040888963407
	return int(uint64(*c)>>33) % n
}

// oneOf is one of some.
func oneOf[T any](c *chance, l ...T) T {
	return l[c.below(len(l))]
}

// cut answers a text's tokens.
func cut(t *testing.T, s string) []api.Token {
	t.Helper()
	l, e := lex.Lex(s)
	if e != api.OK {
		t.Fatalf("%q: %d", s, e)
	}
	return l
}

// allWords are the words, as the chapter names them.
func allWords() []string {
	return strings.Split("auto, none, block, flex, content-box, border-box, min-content, max-content, fit-content, row, row-reverse, column, column-reverse, nowrap, wrap, wrap-reverse, start, end, center, stretch, space-between, space-around, space-evenly, normal, inline-size, size, content, inherit, initial, unset", ", ")
}

// allUnits are the units, as the chapter names them.
func allUnits() []string {
	return strings.Split("px, em, cqw, cqh, cqi, cqb, cqmin, cqmax", ", ")
}

// The makers of values.

func wordOf(n int) api.Value        { return api.Value{Kind: api.Word, N: n} }
func length(n, d int) api.Value     { return api.Value{Kind: api.Length, N: n, D: d} }
func percent(n int) api.Value       { return api.Value{Kind: api.Percent, N: n} }
func numberOf(n int) api.Value      { return api.Value{Kind: api.Number, N: n} }
func ratio(n, d int) api.Value      { return api.Value{Kind: api.Ratio, N: n, D: d} }
func nameOf(s string) api.Value     { return api.Value{Kind: api.Name, Name: s} }
func ident(s string) api.Token      { return api.Token{Kind: api.Ident, Text: s} }
func delim(s string) api.Token      { return api.Token{Kind: api.Delim, Text: s} }
func sign(kind int) api.Token       { return api.Token{Kind: kind} }
func num(n int) api.Token           { return api.Token{Kind: api.Num, N: n} }
func pct(n int) api.Token           { return api.Token{Kind: api.Pct, N: n} }
func dim(n int, s string) api.Token { return api.Token{Kind: api.Dim, Text: s, N: n} }

// someValue is a right value that looks like chance.
func someValue(c *chance) api.Value {
	n := oneOf(c, 0, 1, -1, 1500, -1000, 16000, c.below(1<<20), api.MaxNum, -api.MaxNum)
	up := func() int { return oneOf(c, 0, 1, 999, 16000, c.below(1<<20), api.MaxNum) }
	switch 1 + c.below(api.Name) {
	case api.Word:
		return wordOf(1 + c.below(30))
	case api.Length:
		return length(n, 1+c.below(8))
	case api.Percent:
		return percent(n)
	case api.Number:
		return numberOf(n)
	case api.Ratio:
		return ratio(up(), up())
	}
	return nameOf(oneOf(c, "a", "card", "-b", "--", "_", "Auto", "autos", "px", "\x80", "none-", strings.Repeat("n", api.MaxName)))
}

// TestWord: P9.1: words and their numbers.
func TestWord(t *testing.T) {
	all := allWords()
	if len(all) != 30 {
		t.Fatal(len(all))
	}
	for i, s := range all {
		if got := value.Word(s); got != i+1 {
			t.Errorf("%s: %d, not %d", s, got, i+1)
		}
		if got := value.Text(i + 1); got != s {
			t.Errorf("%d: %s, not %s", i+1, got, s)
		}
		for _, odd := range []string{s + " ", " " + s, s + "s", strings.ToUpper(s), s[1:], s + "\x00"} {
			if got := value.Word(odd); got != 0 && !slices.Contains(all, odd) {
				t.Errorf("%q: %d", odd, got)
			}
		}
	}
	for _, s := range append(allUnits(), "", " ", "a", "important", "none;", "auto none", strings.Repeat("a", 1<<16)) {
		if got := value.Word(s); got != 0 {
			t.Errorf("%q: %d", s, got)
		}
	}
	for _, n := range []int{least, -30, -1, 0, 31, 32, 1<<32 + 1, most} {
		if got := value.Text(n); got != "" {
			t.Errorf("%d: %q", n, got)
		}
	}
}

// TestUnit: P9.1: units and their numbers.
func TestUnit(t *testing.T) {
	for i, s := range allUnits() {
		if got := value.Unit(s); got != i+1 {
			t.Errorf("%s: %d, not %d", s, got, i+1)
		}
	}
	if value.Unit("px") != api.Px || value.Unit("em") != api.Em || value.Unit("cqmax") != api.Cqmax {
		t.Error("not as in api")
	}
	for _, s := range append(allWords(), "", "PX", "p", "pxs", "px ", "cq", "cqminmax", "%", "rem", strings.Repeat("px", 1<<15)) {
		if got := value.Unit(s); got != 0 {
			t.Errorf("%q: %d", s, got)
		}
	}
}

// rightOf is Right by the chapter's words.
func rightOf(v api.Value) bool {
	held := fix.Hold(v.N) == v.N
	switch v.Kind {
	case 1:
		return v.N >= 1 && v.N <= 30 && v == wordOf(v.N)
	case 2:
		return held && v.D >= 1 && v.D <= 8 && v == length(v.N, v.D)
	case 3:
		return held && v == percent(v.N)
	case 4:
		return held && v == numberOf(v.N)
	case 5:
		return v.N >= 0 && v.N <= 1<<30 && v.D >= 0 && v.D <= 1<<30 && v == ratio(v.N, v.D)
	case 6:
		return tree.Name(v.Name) && !slices.Contains(allWords(), v.Name) && v == nameOf(v.Name)
	}
	return false
}

// grid hands over values of which each part is one of some that matter.
func grid(take func(v api.Value)) {
	numbers := []int{least, -1<<30 - 1, -1 << 30, -1000, -1, 0, 1, 2, 8, 9, 29, 30, 31, 1000, 1 << 30, 1<<30 + 1, 1<<32 + 1, most}
	names := append(allWords(), "", "a", "px", "Auto", "1", "-", "--", "a b", "\x80", "\x00", strings.Repeat("a", 32), strings.Repeat("a", 33))
	for _, kind := range []int{least, -1, 0, 1, 2, 3, 4, 5, 6, 7, 1<<32 + 1, most} {
		for _, n := range numbers {
			for _, d := range numbers {
				for _, s := range names {
					take(api.Value{Kind: kind, N: n, D: d, Name: s})
				}
			}
		}
	}
}

// TestRight: P9.1.
func TestRight(t *testing.T) {
	right := [7]int{}
	grid(func(v api.Value) {
		want := rightOf(v)
		if got := value.Right(v); got != want {
			t.Fatalf("%v: %t", v, got)
		}
		if want {
			right[v.Kind]++
		}
	})
	if slices.Min(right[1:]) < 5 {
		t.Error(right)
	}
}

// TestTokens: P9.1: a value's tokens, none of one that is not right.
func TestTokens(t *testing.T) {
	space, over := sign(api.Space), delim("/")
	for _, c := range []struct {
		v    api.Value
		want []api.Token
		text string
	}{
		{wordOf(1), []api.Token{ident("auto")}, "auto"}, {wordOf(30), []api.Token{ident("unset")}, "unset"}, {wordOf(11), []api.Token{ident("row-reverse")}, "row-reverse"},
		{length(1500, api.Em), []api.Token{dim(1500, "em")}, "1.5em"}, {length(0, api.Px), []api.Token{dim(0, "px")}, "0px"}, {length(-api.MaxLen, api.Cqmax), []api.Token{dim(-1<<30, "cqmax")}, "-1073741.824cqmax"},
		{percent(50000), []api.Token{pct(50000)}, "50%"}, {percent(-1), []api.Token{pct(-1)}, "-0.001%"},
		{numberOf(0), []api.Token{num(0)}, "0"}, {numberOf(-2000), []api.Token{num(-2000)}, "-2"},
		{ratio(16000, 9000), []api.Token{num(16000), space, over, space, num(9000)}, "16 / 9"}, {ratio(0, api.MaxNum), []api.Token{num(0), space, over, space, num(1 << 30)}, "0 / 1073741.824"},
		{nameOf("card"), []api.Token{ident("card")}, "card"}, {nameOf("--"), []api.Token{ident("--")}, "--"},
		{api.Value{}, nil, ""}, {wordOf(0), nil, ""}, {wordOf(31), nil, ""}, {length(1, 0), nil, ""}, {length(1, 9), nil, ""}, {length(1<<30+1, 1), nil, ""}, {percent(least), nil, ""}, {numberOf(most), nil, ""},
		{ratio(-1, 1), nil, ""}, {ratio(1, -1), nil, ""}, {nameOf(""), nil, ""}, {nameOf("auto"), nil, ""}, {nameOf("a b"), nil, ""}, {api.Value{Kind: api.Number, D: 1}, nil, ""},
	} {
		got := value.Tokens(c.v)
		if !slices.Equal(got, c.want) {
			t.Errorf("%v: %v, not %v", c.v, got, c.want)
		}
		if s, e := lex.Print(got); e != api.OK || s != c.text {
			t.Errorf("%v is printed %q: %d", c.v, s, e)
		}
	}
	grid(func(v api.Value) {
		if (len(value.Tokens(v)) > 0) != rightOf(v) {
			t.Fatalf("%v: %v", v, value.Tokens(v))
		}
	})
}

// TestAnything: P1: every call ends and none panics, whatever it is given.
func TestAnything(t *testing.T) {
	c := chance(9)
	odd := []int{least, least + 1, -1, 0, 21, 1 << 32, most}
	for range 20000 {
		var l []api.Token
		for range c.below(9) {
			kind := c.below(api.Space + 2)
			if c.below(8) == 0 {
				kind = oneOf(&c, odd...)
			}
			l = append(l, api.Token{Kind: kind, Text: oneOf(&c, "", "auto", "a", "px", "/", "\x00\xff", "1"), N: oneOf(&c, odd...)})
		}
		value.Read(l)
		value.Parse(l)
	}
	for _, n := range odd {
		value.Text(n)
	}
	// However many of one.
	for _, k := range alphabet() {
		many := slices.Repeat([]api.Token{k}, 1<<16)
		value.Read(many)
		value.Parse(many)
		value.Read(slices.Concat([]api.Token{num(1)}, many))
		value.Parse(slices.Concat([]api.Token{num(1)}, many, []api.Token{num(1)}))
		value.Parse(slices.Repeat([]api.Token{num(1), k}, 1<<16))
	}
	long := strings.Repeat("a", 1<<20)
	value.Word(long)
	value.Unit(long)
	value.Right(nameOf(long))
	value.Tokens(nameOf(long))
	value.Parse([]api.Token{ident(long)})
}
