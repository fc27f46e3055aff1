package tokens_test

import (
	"slices"
	"testing"

	"wainscot/api"
	"wainscot/tokens"
)

// TestNext: what comes next is told, and stays; at the end it is nothing.
func TestNext(t *testing.T) {
	for _, l := range [][]api.Token{nil, {}} {
		c := tokens.Cursor{Left: l}
		if got := c.Next(); got != (api.Token{}) {
			t.Errorf("at the end: %v", got)
		}
	}
	c := tokens.Cursor{Left: []api.Token{tokens.Ident("a"), tokens.Delim("b")}}
	for range 2 {
		if got := c.Next(); got != tokens.Ident("a") {
			t.Error(got)
		}
	}
}

func TestTake(t *testing.T) {
	l := []api.Token{tokens.Ident("a"), {Kind: api.Num, Text: "b", N: 3}, {}}
	was := slices.Clone(l)
	c := tokens.Cursor{Left: l}
	for _, w := range []struct {
		kind  int
		want  api.Token
		taken bool
	}{
		{api.Num, api.Token{}, false}, {0, api.Token{}, false}, {api.Ident, l[0], true}, {api.Ident, api.Token{}, false},
		{api.Num, l[1], true}, {0, l[2], true}, {0, api.Token{}, false}, {api.Ident, api.Token{}, false},
	} {
		if got, taken := c.Take(w.kind); got != w.want || taken != w.taken {
			t.Errorf("kind %d: %v, %t", w.kind, got, taken)
		}
	}
	if len(c.Left) != 0 || !slices.Equal(l, was) {
		t.Error(c.Left, l)
	}
}

func TestPass(t *testing.T) {
	c := tokens.Cursor{Left: []api.Token{{Kind: api.Ident, Text: "a", N: 7}, tokens.Delim(""), tokens.Ident("b")}}
	for _, w := range []struct {
		kind   int
		text   string
		passed bool
	}{
		{api.Ident, "b", false}, {api.Ident, "", false}, {api.Delim, "a", false}, {api.Ident, "a", true},
		{api.Ident, "", false}, {api.Delim, "", true}, {api.Ident, "b", true}, {api.Ident, "b", false}, {0, "", false},
	} {
		if got := c.Pass(w.kind, w.text); got != w.passed {
			t.Errorf("kind %d, %q: %t", w.kind, w.text, got)
		}
	}
}

func TestSpaces(t *testing.T) {
	s, a := tokens.Sign(api.Space), tokens.Ident("a")
	for _, w := range []struct{ l, left []api.Token }{
		{nil, nil}, {[]api.Token{s}, nil}, {[]api.Token{s, s, s}, nil}, {[]api.Token{a, s}, []api.Token{a, s}},
		{[]api.Token{s, a, s}, []api.Token{a, s}}, {[]api.Token{{Kind: api.Space, Text: "b", N: 1}, s, a}, []api.Token{a}}, {[]api.Token{tokens.Delim(" ")}, []api.Token{tokens.Delim(" ")}},
	} {
		c := tokens.Cursor{Left: w.l}
		if some := c.Spaces(); some != (len(w.left) < len(w.l)) || !slices.Equal(c.Left, w.left) {
			t.Errorf("%v: %t, left %v", w.l, some, c.Left)
		}
	}
}

func TestOver(t *testing.T) {
	s, over, n, px := tokens.Sign(api.Space), tokens.Delim("/"), api.Token{Kind: api.Num, N: 7}, api.Token{Kind: api.Dim, N: 7}
	for _, w := range []struct {
		l    []api.Token
		left int
	}{
		{[]api.Token{over, n}, 0}, {[]api.Token{s, over, n, s}, 1}, {[]api.Token{over, s, s, n, n}, 1}, {[]api.Token{s, s, over, s, n, over, n}, 2},
	} {
		c := tokens.Cursor{Left: w.l}
		if got, some := c.Over(); got != n || !some || len(c.Left) != w.left {
			t.Errorf("%v: %v, %t, left %v", w.l, got, some, c.Left)
		}
	}
	for _, l := range [][]api.Token{
		nil, {s}, {over}, {s, over, s}, {n}, {s, n}, {over, over, n}, {s, over, px}, {tokens.Delim("*"), n}, {tokens.Ident("/"), n},
	} {
		c := tokens.Cursor{Left: l}
		if got, some := c.Over(); got != (api.Token{}) || some || !slices.Equal(c.Left, l) {
			t.Errorf("%v: %v, %t, left %v", l, got, some, c.Left)
		}
	}
}

func TestMakers(t *testing.T) {
	got := append(tokens.Ratio(3, 5), tokens.Ident("a"), tokens.Delim("b"), tokens.Sign(api.Colon))
	want := []api.Token{{Kind: 7, N: 3}, {Kind: 20}, {Kind: 19, Text: "/"}, {Kind: 20}, {Kind: 7, N: 5}, {Kind: 1, Text: "a"}, {Kind: 19, Text: "b"}, {Kind: 10}}
	if !slices.Equal(got, want) {
		t.Error(got)
	}
}
