package markup_test

import (
	"math"
	"slices"
	"strings"
	"testing"

	"wainscot/api"
	"wainscot/markup"
	"wainscot/tree"
)

// chance hands out numbers that look like chance, the same ones in every run.
type chance uint64

func (c *chance) below(n int) int {
	*c = *c*6364136223846793005 + 1442695040888963407
	return int(uint64(*c)>>33) % n
}

// oneOf is one of some.
func oneOf[T any](c *chance, l ...T) T {
	return l[c.below(len(l))]
}

func element(parent int, tag string) api.Node { return api.Node{Parent: parent, Tag: tag} }
func words(parent int, s string) api.Node     { return api.Node{Parent: parent, Text: s} }

func same(a, b []api.Node) bool {
	return slices.EqualFunc(a, b, func(a, b api.Node) bool {
		return a.Parent == b.Parent && a.Tag == b.Tag && a.ID == b.ID && a.Text == b.Text && slices.Equal(a.Classes, b.Classes) && slices.Equal(a.Attrs, b.Attrs)
	})
}

// deep is a copy that shares no list.
func deep(l []api.Node) []api.Node {
	m := slices.Clone(l)
	for i := range m {
		m[i].Classes = slices.Clone(m[i].Classes)
		m[i].Attrs = slices.Clone(m[i].Attrs)
	}
	return m
}

// spoil overwrites all that a list's nodes hold.
func spoil(l []api.Node) {
	for i := range l {
		for j := range l[i].Classes {
			l[i].Classes[j] = "spoilt"
		}
		for j := range l[i].Attrs {
			l[i].Attrs[j] = api.Attr{Name: "spoilt", Value: "spoilt"}
		}
		l[i] = words(77, "spoilt")
	}
}

// someName is a name.
func someName(c *chance) string {
	return oneOf(c, "a", "b", "-c", "--", "_1", "x-2", "D", "\x80", "-\xff9", strings.Repeat("d", api.MaxName))
}

// someText is words.
func someText(c *chance) string {
	return oneOf(c, "", "x", " ", "x y", "{", "}", "a{b}", "]", "'", "[a=", "#a.b", "\\", "\x7f\xff", strings.Repeat("y", api.MaxWords))
}

// someElement is a right element.
func someElement(c *chance, parent int) api.Node {
	n := element(parent, someName(c))
	if c.below(3) == 0 {
		n.ID = someName(c)
	}
	few := func() int { return oneOf(c, 0, 0, 0, 1, 2, api.MaxMarks) }
	for range few() {
		n.Classes = append(n.Classes, someName(c))
	}
	for range few() {
		n.Attrs = append(n.Attrs, api.Attr{Name: someName(c), Value: someText(c)})
	}
	return n
}

// someTree is a tree of at most n nodes.
func someTree(c *chance, n int) []api.Node {
	l := []api.Node{someElement(c, -1)}
	up, often := 0, 1+c.below(8)
	for len(l) < n {
		// From the node ahead, or what is above it, down again.
		for l[up].Tag == "" || l[up].Parent >= 0 && c.below(often) == 0 {
			up = l[up].Parent
		}
		n := someElement(c, up)
		if c.below(3) == 0 {
			n = words(up, someText(c))
		}
		l = append(l, n)
		up = len(l) - 1
		if tree.Depth(l, up) == api.MaxDepth {
			up = l[up].Parent
		}
	}
	return l
}

func TestPrint(t *testing.T) {
	full := element(-1, "a")
	full.ID, full.Classes, full.Attrs = "b", []string{"c", "d", "c"}, []api.Attr{{Name: "e", Value: "f g"}, {Name: "e"}}
	kids := []api.Node{full, element(0, "h"), words(1, "x y"), words(0, ""), element(0, "i"), element(4, "j"), element(5, "k"), element(4, "l"), words(0, "z")}
	kids[4].Attrs = []api.Attr{{Name: "m", Value: "{n}"}}
	for _, c := range []struct {
		l    []api.Node
		want string
	}{
		{[]api.Node{element(-1, "a")}, `a`},
		{[]api.Node{full}, `a#b.c.d.c[e="f g"][e=""]`},
		{[]api.Node{element(-1, "a"), element(0, "b")}, `a{b}`},
		{[]api.Node{element(-1, "a"), words(0, "b")}, `a{"b"}`},
		{[]api.Node{element(-1, "a"), element(0, "b"), element(1, "c"), element(0, "d")}, `a{b{c} d}`},
		{[]api.Node{{Parent: -1, Tag: "a", ID: "b", Classes: []string{"c"}}, element(0, "d"), words(1, "x y")}, `a#b.c{d{"x y"}}`},
		{kids, `a#b.c.d.c[e="f g"][e=""]{h{"x y"} "" i[m="{n}"]{j{k} l} "z"}`},
	} {
		if got, e := markup.Print(c.l); e != api.OK || got != c.want {
			t.Errorf("%q, %d, not %q", got, e, c.want)
		}
		if got, at, e := markup.Parse(c.want); e != api.OK || at != 0 || !same(got, c.l) {
			t.Errorf("%q: %v, %d, %d", c.want, got, at, e)
		}
	}
}

// TestPrintWrong: P11.2: what is no tree, whatever it lacks.
func TestPrintWrong(t *testing.T) {
	chain := func(n int) []api.Node {
		var l []api.Node
		for i := range n {
			l = append(l, element(i-1, "a"))
		}
		return l
	}
	flat := func(n int) []api.Node {
		return append([]api.Node{element(-1, "a")}, slices.Repeat([]api.Node{element(0, "b")}, n-1)...)
	}
	for _, l := range [][]api.Node{
		nil, {}, {words(-1, "a")}, {element(0, "a")}, {element(-1, "1")}, {element(-1, "")}, {element(-1, "a"), element(-1, "b")}, {element(-1, "a"), element(1, "b")},
		{element(-1, "a"), words(0, "b"), element(1, "c")}, {element(-1, "a"), element(0, "b"), element(0, "c"), element(1, "d")}, {element(-1, "a"), words(0, "\"")}, {element(-1, "a"), words(0, "\n")},
		{{Parent: -1, Tag: "a", ID: "1"}}, {{Parent: -1, Tag: "a", Classes: []string{""}}}, {{Parent: -1, Tag: "a", Attrs: []api.Attr{{}}}}, {{Parent: -1, Tag: "a", Text: "b"}}, {element(-1, strings.Repeat("a", 33))},
		{{Parent: -1, Tag: "a", Classes: slices.Repeat([]string{"b"}, 9)}}, {element(-1, "a"), words(0, strings.Repeat("b", 257))}, chain(65), flat(1025), append(flat(1<<15), element(9, "1")),
	} {
		if got, e := markup.Print(l); e != api.ErrTree || got != "" {
			t.Errorf("%d nodes: %q, %d", len(l), got, e)
		}
	}
	for _, l := range [][]api.Node{chain(64), flat(1024)} {
		if got, e := markup.Print(l); e != api.OK || strings.Count(got, "a")+strings.Count(got, "b") != len(l) {
			t.Errorf("%d nodes: %q, %d", len(l), got, e)
		}
	}
}

// long is a tree whose text has so many bytes: at least 50000.
func long(t *testing.T, n int) []api.Node {
	t.Helper()
	l := []api.Node{element(-1, "a")}
	const most = len(`""`) + api.MaxWords + len(` `)
	left := n - len(`a{}`) + len(` `)
	for left > 0 {
		size := min(left, most)
		if rest := left - size; rest > 0 && rest < len(`"" `) {
			size -= len(`"" `)
		}
		l = append(l, words(0, strings.Repeat("x", size-len(`"" `))))
		left -= size
	}
	return l
}

// TestPrintLong: P11.2: how long a text may be.
func TestPrintLong(t *testing.T) {
	for n := api.MaxText - 300; n <= api.MaxText; n++ {
		l := long(t, n)
		got, e := markup.Print(l)
		if e != api.OK || len(got) != n {
			t.Fatalf("%d: %d, %d", n, len(got), e)
		}
		if back, at, e := markup.Parse(got); e != api.OK || at != 0 || !same(back, l) {
			t.Fatalf("%d: %d nodes, %d, %d", n, len(back), at, e)
		}
	}
	for _, n := range []int{api.MaxText + 1, api.MaxText + 2, 2 * api.MaxText, 5 * api.MaxText} {
		if got, e := markup.Print(long(t, n)); e != api.ErrLong || got != "" {
			t.Errorf("%d: %d, %d", n, len(got), e)
		}
	}
	// No tree is told ahead of too long.
	if got, e := markup.Print(append(long(t, 2*api.MaxText), words(0, "\""))); e != api.ErrTree || got != "" {
		t.Error(len(got), e)
	}
}

// TestRoundTrip: P11.3.
func TestRoundTrip(t *testing.T) {
	c := chance(3)
	long := 0
	for range 2000 {
		l := someTree(&c, oneOf(&c, 1, 2, 5, 12, 30))
		was := deep(l)
		s, e := markup.Print(l)
		if e == api.ErrLong {
			long++
			continue
		}
		if e != api.OK || !same(l, was) {
			t.Fatal(e, l)
		}
		got, at, e := markup.Parse(s)
		if e != api.OK || at != 0 || !same(got, l) {
			t.Fatalf("%q: %v, %d, %d", s, got, at, e)
		}
		if tree.Check(got) != api.OK {
			t.Fatalf("%q: no tree", s)
		}
	}
	if long > 500 {
		t.Errorf("%d are too long", long)
	}
}

// TestOwnMemory: what is answered is nobody else's.
func TestOwnMemory(t *testing.T) {
	const s = `a#b.c.d[e="f"][g="h"]{i.j[k=""] "l"}`
	first, _, e := markup.Parse(s)
	if e != api.OK {
		t.Fatal(e)
	}
	want := deep(first)
	second, _, _ := markup.Parse(s)
	spoil(first)
	if !same(second, want) {
		t.Error(second)
	}
	if got, e := markup.Print(second); e != api.OK || got != s || !same(second, want) {
		t.Error(got, e, second)
	}
	// No list of one node grows into another one's.
	for i := range second {
		second[i].Classes = append(second[i].Classes, "m")
		second[i].Attrs = append(second[i].Attrs, api.Attr{Name: "n"})
	}
	for i := range second {
		if !slices.Equal(second[i].Classes[:len(want[i].Classes)], want[i].Classes) || !slices.Equal(second[i].Attrs[:len(want[i].Attrs)], want[i].Attrs) {
			t.Error(i, second[i])
		}
	}
}

// TestAnything: P1: every call ends and none panics, whatever it is given.
func TestAnything(t *testing.T) {
	c := chance(9)
	odd := func() int { return oneOf(&c, math.MinInt, -2, -1, -1, 0, 0, 1, 2, 1<<32, math.MaxInt) }
	for range 20000 {
		var b []byte
		for range c.below(60) {
			b = append(b, oneOf(&c, `a-.#[=]"{} `[c.below(11)], byte(c.below(256))))
		}
		l, at, e := markup.Parse(string(b))
		if e != api.OK && (len(l) > 0 || at < 0 || at > len(b)) || e == api.OK && (at != 0 || tree.Check(l) != api.OK) {
			t.Fatalf("%q: %v, %d, %d", b, l, at, e)
		}
		var m []api.Node
		for range c.below(6) {
			n := someElement(&c, odd())
			if c.below(3) == 0 {
				n.Tag, n.Text = "", oneOf(&c, "", "x", "\"", "\x00")
			}
			m = append(m, n)
		}
		s, e := markup.Print(m)
		if ok := tree.Check(m) == api.OK; ok != (e == api.OK) || !ok && (s != "" || e != api.ErrTree) {
			t.Fatalf("%v: %q, %d", m, s, e)
		}
	}
	for _, s := range []string{"a", "-", "{", "}", "a{", "a{}", "\"", "\"a\"", "#a", ".a", "[a=\"\"]", " ", "\x00", "\xff", "a{\"", "a ", "a.b"} {
		for _, n := range []int{1 << 8, 1 << 12, api.MaxText, 1 << 20} {
			many := strings.Repeat(s, n/len(s))
			markup.Parse(many)
			markup.Parse("a{" + many)
			markup.Parse("a" + many)
		}
	}
}
