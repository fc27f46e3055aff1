package syntax_test

import (
	"math"
	"slices"
	"testing"

	"wainscot/api"
	"wainscot/lex"
	"wainscot/syntax"
)

const (
	least = math.MinInt
	most  = math.MaxInt
)

// chance hands out numbers that look like chance, the same ones in every run.
type chance uint64

func (c *chance) below(n int) int {
	*c = *c*6364136223846793005 + 1442695040888963407
	return int(uint64(*c)>>33) % n
}

// The makers of tokens.

func ident(s string) api.Token { return api.Token{Kind: api.Ident, Text: s} }
func at(s string) api.Token    { return api.Token{Kind: api.At, Text: s} }
func delim(s string) api.Token { return api.Token{Kind: api.Delim, Text: s} }
func sign(kind int) api.Token  { return api.Token{Kind: kind} }

// cut answers a text's tokens.
func cut(t *testing.T, s string) []api.Token {
	t.Helper()
	l, e := lex.Lex(s)
	if e != api.OK {
		t.Fatalf("%q: %d", s, e)
	}
	return l
}

// alphabet has tokens of every kind at which something may change.
func alphabet() []api.Token {
	return []api.Token{
		ident("a"), ident("important"), {Kind: api.Func, Text: "f"}, at("b"), at(""), {Kind: api.BadStr, Text: "c"}, delim("!"), delim("d"),
		sign(api.Colon), sign(api.Semi), sign(api.Open), sign(api.Close), sign(api.OpenSq), sign(api.CloseSq), sign(api.OpenCu), sign(api.CloseCu), sign(api.Space),
	}
}

// lists hands over all lists of up to n tokens of some.
func lists(some []api.Token, n int, take func(l []api.Token)) {
	var more func(l []api.Token)
	more = func(l []api.Token) {
		take(l)
		for i := 0; i < len(some) && len(l) < n; i++ {
			more(append(l[:len(l):len(l)], some[i]))
		}
	}
	more(nil)
}

// longLists hands over lists that look like chance, of tokens and of pieces of which something is made.
func longLists(n int, take func(l []api.Token)) {
	var pieces [][]api.Token
	for _, k := range alphabet() {
		pieces = append(pieces, []api.Token{k})
	}
	for _, s := range []string{"a:b", "a : b !important", "a: b!", "{", "}", "a{b:c;d:e}", "@x y;", "@x(;){", ";", " ", "[()]", "(", "f(a;b)", "\"a\n", ",", "1px", "(!)", ":", "! important"} {
		l, _ := lex.Lex(s)
		pieces = append(pieces, l)
	}
	c := chance(3)
	for range n {
		var l []api.Token
		for range c.below(24) {
			l = append(l, pieces[c.below(len(pieces))]...)
		}
		take(l)
	}
}

// many hands over lists of all these kinds.
func many(take func(l []api.Token)) {
	lists(alphabet(), 4, take)
	longLists(20000, take)
}

// closingOf is the kind that closes an opening; 0, if it is none.
func closingOf(k api.Token) int {
	return map[int]int{api.Open: api.Close, api.Func: api.Close, api.OpenSq: api.CloseSq, api.OpenCu: api.CloseCu}[k.Kind]
}

// closes is what closes the opening at a place, by the chapter's words.
func closes(l []api.Token, i int) int {
	for k := i + 1; k < len(l); k++ {
		if closingOf(l[k]) != 0 {
			k = closes(l, k)
		} else if l[k].Kind == closingOf(l[i]) {
			return k
		}
	}
	return len(l)
}

// top tells of each token whether it is at the top: what closes an opening is passed with it.
func top(l []api.Token) []bool {
	is := make([]bool, len(l))
	for i := range is {
		is[i] = true
	}
	for i, k := range l {
		if is[i] && closingOf(k) != 0 {
			for j := i + 1; j < len(l) && j <= closes(l, i); j++ {
				is[j] = false
			}
		}
	}
	return is
}

// firstTop is the place of the first token at the top of one of these kinds, or the end.
func firstTop(l []api.Token, kinds ...int) int {
	for i, is := range top(l) {
		if is && slices.Contains(kinds, l[i].Kind) {
			return i
		}
	}
	return len(l)
}

// split is Split by the chapter's words: behind a token of the kind the top goes on, be it an opening's or not.
func split(l []api.Token, kind int) [][]api.Token {
	i := firstTop(l, kind)
	if i == len(l) {
		return [][]api.Token{l}
	}
	return append([][]api.Token{l[:i]}, split(l[i+1:], kind)...)
}

// trim is Trim by the chapter's words.
func trim(l []api.Token) []api.Token {
	solid := func(k api.Token) bool { return k.Kind != api.Space }
	from := slices.IndexFunc(l, solid)
	if from < 0 {
		return nil
	}
	to := len(l)
	for !solid(l[to-1]) {
		to--
	}
	return l[from:to]
}

func TestMatch(t *testing.T) {
	for _, c := range []struct {
		s       string
		i, want int
	}{
		{"([)])", 0, 4}, {"([)])", 1, 3}, {"()", 0, 1}, {"[]", 0, 1}, {"{}", 0, 1}, {"f()", 0, 1}, {"(a)b)", 0, 2}, {"1(b)", 1, 3},
		{"(())", 0, 3}, {"(())", 1, 2}, {"(f())", 0, 3}, {"f(())", 0, 3}, {"{[(f()a)]}", 0, 8}, {"(()())", 0, 5}, {"(()())", 3, 4},
		// Other closings are passed.
		{"(])", 0, 2}, {"(}])", 0, 3}, {"[)}]", 0, 3}, {"{)]}", 0, 3}, {"{;:,}", 0, 4},
		// What nothing closes goes to the end, and with it all around it.
		{"(", 0, 1}, {"f(", 0, 1}, {"(a", 0, 2}, {"(]}", 0, 3}, {"([)", 0, 3}, {"([)", 1, 3}, {"(()", 0, 3}, {"(()", 1, 2}, {"{(})}", 0, 4}, {"{(}", 0, 3}, {"a{b", 1, 3},
		// No opening, and no token.
		{"a", 0, 0}, {"1(b)", 0, 0}, {"1(b)", 3, 3}, {")(", 0, 0}, {"](", 0, 0}, {"}(", 0, 0}, {"a b", 1, 1}, {"()", -1, -1}, {"()", 2, 2}, {"()", 3, 3}, {"()", most, most}, {"()", least, least}, {"", 0, 0}, {"", 1, 1}, {"", -1, -1},
	} {
		if got := syntax.Match(cut(t, c.s), c.i); got != c.want {
			t.Errorf("%q at %d: %d, not %d", c.s, c.i, got, c.want)
		}
	}
}

// TestMatchReckoned: P6.1 of every place of many lists.
func TestMatchReckoned(t *testing.T) {
	many(func(l []api.Token) {
		for i := -2; i < len(l)+2; i++ {
			want := i
			if i >= 0 && i < len(l) && closingOf(l[i]) != 0 {
				want = closes(l, i)
			}
			if got := syntax.Match(l, i); got != want {
				t.Fatalf("%v at %d: %d, not %d", l, i, got, want)
			}
		}
	})
}

// TestMatchKinds: P6.1: only four kinds open.
func TestMatchKinds(t *testing.T) {
	for _, kind := range append([]int{least, -1, 21, 1 << 32, most, 1<<32 + api.Open}, kinds()...) {
		k := api.Token{Kind: kind, Text: "(", N: api.Open}
		want := 0
		if kind == api.Open || kind == api.Func || kind == api.OpenSq || kind == api.OpenCu {
			want = 1
		}
		if got := syntax.Match([]api.Token{k}, 0); got != want {
			t.Errorf("kind %d: %d", kind, got)
		}
	}
}

// kinds are all kinds of tokens, and 0.
func kinds() []int {
	var l []int
	for kind := range api.Space + 1 {
		l = append(l, kind)
	}
	return l
}

// TestWithin: P6.5.
func TestWithin(t *testing.T) {
	many(func(l []api.Token) {
		for i := range l {
			end := syntax.Match(l, i)
			for k := i + 1; k < end; k++ {
				within := syntax.Match(l, k)
				// Only the end closes two.
				if within > end || within == end && end < len(l) {
					t.Fatalf("%v: %d is closed at %d, %d within it at %d", l, i, end, k, within)
				}
			}
		}
	})
}

func TestTrim(t *testing.T) {
	a, b, s := ident("a"), ident("b"), sign(api.Space)
	for _, c := range []struct{ l, want []api.Token }{
		{nil, nil}, {[]api.Token{}, nil}, {[]api.Token{s}, nil}, {[]api.Token{s, s, s}, nil},
		{[]api.Token{a}, []api.Token{a}}, {[]api.Token{s, a}, []api.Token{a}}, {[]api.Token{a, s}, []api.Token{a}}, {[]api.Token{s, s, a, s, s, s}, []api.Token{a}},
		{[]api.Token{a, s, b}, []api.Token{a, s, b}}, {[]api.Token{s, a, s, s, b, s}, []api.Token{a, s, s, b}},
		// Only a Space is one, whatever else it says.
		{[]api.Token{delim(" "), s}, []api.Token{delim(" ")}}, {[]api.Token{{Kind: api.Space, Text: "a", N: 5}, a}, []api.Token{a}}, {[]api.Token{{}, s}, []api.Token{{}}},
	} {
		if got := syntax.Trim(c.l); !slices.Equal(got, c.want) {
			t.Errorf("%v: %v, not %v", c.l, got, c.want)
		}
	}
	many(func(l []api.Token) {
		if got, want := syntax.Trim(l), trim(l); !slices.Equal(got, want) {
			t.Fatalf("%v: %v, not %v", l, got, want)
		}
	})
}

// samePieces tells whether two lists of lists are the same.
func samePieces(a, b [][]api.Token) bool {
	return slices.EqualFunc(a, b, slices.Equal[[]api.Token])
}

func TestSplit(t *testing.T) {
	for _, c := range []struct {
		s    string
		kind int
		want []string
	}{
		// One piece more than there are of that kind; of nothing an empty one.
		{"", api.Semi, []string{""}}, {"a", api.Semi, []string{"a"}}, {";", api.Semi, []string{"", ""}}, {";;", api.Semi, []string{"", "", ""}}, {"a;b", api.Semi, []string{"a", "b"}}, {"a;b;", api.Semi, []string{"a", "b", ""}}, {";a", api.Semi, []string{"", "a"}}, {"a,b;c", api.Comma, []string{"a", "b;c"}}, {"a:b:c", api.Colon, []string{"a", "b", "c"}},
		// Pieces are not trimmed.
		{" a ; b ", api.Semi, []string{" a ", " b "}}, {"a b", api.Space, []string{"a", "b"}}, {" ", api.Space, []string{"", ""}},
		// Only at the top.
		{"(a;b);c", api.Semi, []string{"(a;b)", "c"}}, {"f(;);c", api.Semi, []string{"f(;)", "c"}}, {"[;];c", api.Semi, []string{"[;]", "c"}}, {"{;};c", api.Semi, []string{"{;}", "c"}}, {"({;};);c;(;", api.Semi, []string{"({;};)", "c", "(;"}}, {"(;];);", api.Semi, []string{"(;];)", ""}},
		{"a;(b;c", api.Semi, []string{"a", "(b;c"}}, {"(;", api.Semi, []string{"(;"}}, {"([;);]", api.Semi, []string{"([;);]"}},
		// Closings that close nothing are at the top as others are.
		{");a", api.Semi, []string{")", "a"}}, {"}];[)", api.Semi, []string{"}]", "[)"}}, {"a)b)c", api.Close, []string{"a", "b", "c"}}, {"a}b]c", api.CloseSq, []string{"a}b", "c"}},
		// What closes an opening is passed with it.
		{"(a)b)c", api.Close, []string{"(a)b", "c"}}, {"f(a)", api.Close, []string{"f(a)"}}, {"[(])]]a", api.CloseSq, []string{"[(])]", "a"}}, {"{", api.CloseCu, []string{"{"}},
		// A token of an opening's kind opens nothing where it parts.
		{"a{b;c}d", api.OpenCu, []string{"a", "b;c}d"}}, {"[b[c]]d", api.OpenSq, []string{"", "b", "c]]d"}}, {"1((2)3)(4", api.Open, []string{"1", "", "2)3)", "4"}}, {"f(g(a))h(", api.Func, []string{"", "", "a))", ""}}, {"{(a}(", api.OpenCu, []string{"", "(a}("}}, {"(", api.Open, []string{"", ""}},
		// Of the two that a Close closes only the one of that kind.
		{"f(1(2)3)(4", api.Open, []string{"f(1(2)3)", "4"}}, {"(f(1)2)f(3", api.Func, []string{"(f(1)2)", "3"}}, {"[{]{}]{1", api.OpenCu, []string{"[{]{}]{1"}}, {"[{}]{1", api.OpenCu, []string{"[{}]", "1"}},
	} {
		var want [][]api.Token
		for _, s := range c.want {
			want = append(want, cut(t, s))
		}
		if got := syntax.Split(cut(t, c.s), c.kind); !samePieces(got, want) {
			t.Errorf("%q at %d: %v, not %v", c.s, c.kind, got, want)
		}
	}
	for _, l := range [][]api.Token{nil, {}} {
		for _, kind := range kinds() {
			if got := syntax.Split(l, kind); len(got) != 1 || len(got[0]) != 0 {
				t.Errorf("nothing at %d: %v", kind, got)
			}
		}
	}
}

// TestSplitReckoned: P6.1 of many lists, and of every kind.
func TestSplitReckoned(t *testing.T) {
	check := func(l []api.Token) {
		for _, kind := range kinds() {
			if got, want := syntax.Split(l, kind), split(l, kind); !samePieces(got, want) {
				t.Fatalf("%v at %d: %v, not %v", l, kind, got, want)
			}
		}
	}
	lists(alphabet(), 3, check)
	lists(alphabet()[9:], 4, check)
	longLists(1000, check)
}

// TestSplitKinds: P6.1: kinds that no token should have part, too, where a token has one.
func TestSplitKinds(t *testing.T) {
	for _, kind := range []int{least, -1, 0, 21, 1<<32 + api.Semi, most} {
		l := []api.Token{sign(api.Semi), sign(kind), sign(api.Open), sign(kind)}
		if got := syntax.Split(l, kind); !samePieces(got, [][]api.Token{{sign(api.Semi)}, {sign(api.Open), sign(kind)}}) {
			t.Errorf("kind %d: %v", kind, got)
		}
		if got := syntax.Split(l, kind^1); !samePieces(got, [][]api.Token{l}) {
			t.Errorf("kind %d: %v", kind^1, got)
		}
	}
}

// TestPiecesNew: what is handed in stays as it is, and what is answered is new: no two lists share anything.
func TestPiecesNew(t *testing.T) {
	longLists(300, func(l []api.Token) {
		was := slices.Clone(l)
		var got [][]api.Token
		for _, kind := range []int{api.Semi, api.Space, api.OpenCu} {
			got = append(got, syntax.Split(l, kind)...)
		}
		got = append(got, syntax.Trim(l), syntax.Trim(l))
		apart(t, l, was, got)
	})
}

// apart fails if one of some lists shares memory with another one, or with what was handed in.
func apart(t *testing.T, l, was []api.Token, got [][]api.Token) {
	t.Helper()
	var old [][]api.Token
	for _, g := range got {
		old = append(old, slices.Clone(g))
	}
	for i, g := range got {
		if !slices.Equal(g, old[i]) || !slices.Equal(l, was) {
			t.Fatalf("of %v list %d is shared", was, i)
		}
		for k := range g[:cap(g)] {
			g[:cap(g)][k] = api.Token{Kind: -1}
		}
	}
	if !slices.Equal(l, was) {
		t.Fatalf("%v was %v", l, was)
	}
}

// TestAnything: P1: every call ends and none panics, whatever it is given.
func TestAnything(t *testing.T) {
	odd := []int{least, least + 1, -api.Open, -1, 0, 21, 1 << 32, 1<<32 + api.OpenCu, most - 1, most}
	c := chance(9)
	for range 3000 {
		var l []api.Token
		for range c.below(30) {
			kind := c.below(api.Space + 2)
			if c.below(4) == 0 {
				kind = odd[c.below(len(odd))]
			}
			l = append(l, api.Token{Kind: kind, Text: []string{"", "!", "important", "\x00\xff"}[c.below(4)], N: odd[c.below(len(odd))]})
		}
		everything(l)
	}
	for i := range odd {
		everything(nil)
		syntax.Match(nil, odd[i])
		syntax.Match([]api.Token{sign(api.Open)}, odd[i])
	}
	// However deep, and however many.
	const n = 1 << 16
	for _, k := range alphabet() {
		everything(slices.Repeat([]api.Token{k}, n))
	}
	for _, open := range []int{api.Open, api.Func, api.OpenSq, api.OpenCu} {
		deep := slices.Repeat([]api.Token{sign(open)}, n)
		closed := slices.Concat(deep, slices.Repeat([]api.Token{sign(closingOf(sign(open)))}, n))
		if got := syntax.Match(deep, 0); got != n {
			t.Error(got)
		}
		if got := syntax.Match(closed, 0); got != 2*n-1 {
			t.Error(got)
		}
		everything(closed)
		everything(slices.Concat([]api.Token{ident("a"), sign(api.Colon)}, deep, []api.Token{delim("!"), ident("important")}))
	}
}

// everything makes every call of a list.
func everything(l []api.Token) {
	for i := -1; i <= len(l); i += 1 + len(l)/16 {
		syntax.Match(l, i)
	}
	syntax.Trim(l)
	for _, kind := range append(kinds(), -1, least, most) {
		syntax.Split(l, kind)
	}
	syntax.Rules(l)
	syntax.Decls(l)
}
