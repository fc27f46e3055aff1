package match_test

import (
	"math"
	"slices"
	"strings"
	"testing"

	"wainscot/api"
	"wainscot/lex"
	"wainscot/markup"
	"wainscot/match"
	"wainscot/selector"
)

const (
	least = math.MinInt
	most  = math.MaxInt
)

// chance hands out numbers that look like chance, the same ones in every run.
type chance uint64

func (c *chance) below(n int) int {
	*c = *c*6364136223846793005 + 1442695040888963407
	return int(uint64(*c)>>33) % n
}

// oneOf is one of some.
func oneOf[T any](c *chance, l ...T) T {
	return l[c.below(len(l))]
}

// of is the selector of some parts.
func of(parts ...api.Part) api.Selector {
	return api.Selector{Parts: parts}
}

// page is a text's tree.
func page(t *testing.T, s string) []api.Node {
	t.Helper()
	l, at, e := markup.Parse(s)
	if e != api.OK {
		t.Fatalf("%q: %d at %d", s, e, at)
	}
	return l
}

// selectors are a text's.
func selectors(t *testing.T, s string) []api.Selector {
	t.Helper()
	k, e := lex.Lex(s)
	l, e2 := selector.Parse(k)
	if e != api.OK || e2 != api.OK {
		t.Fatalf("%q: %d, %d", s, e, e2)
	}
	return l
}

// someList is a list of n nodes that looks like chance, a tree or none.
func someList(c *chance, n int) []api.Node {
	var l []api.Node
	for i := range n {
		one := api.Node{Parent: oneOf(c, i-1, i-1, 0, 0, 0, 1, c.below(i+1), oneOf(c, -1, i, n, least, most))}
		if c.below(8) > 0 {
			one.Tag, one.ID = oneOf(c, "a", "b"), oneOf(c, "", "a", "b")
		}
		for range c.below(3) {
			one.Classes = append(one.Classes, oneOf(c, "a", "b"))
			one.Attrs = append(one.Attrs, api.Attr{Name: oneOf(c, "a", "b"), Value: oneOf(c, "", "x", "y")})
		}
		l = append(l, one)
	}
	return l
}

// somePart is a part that asks for little, and looks like chance.
func somePart(c *chance) api.Part {
	p := api.Part{Comb: 1 + c.below(api.Later)}
	switch c.below(6) {
	case 0:
		p.ID = oneOf(c, "a", "b")
	case 1:
		p.Classes = oneOf(c, []string{"a"}, []string{"b"}, []string{"a", "b"}, []string{"b", "b"}, []string{""})
	case 2:
		p.Tests = oneOf(c, []api.Test{{Name: "a"}}, []api.Test{{Name: "a", Value: "z"}}, []api.Test{{Name: "b", Equal: true}}, []api.Test{{Name: "a", Equal: true, Value: "x"}, {Name: "b"}})
	case 3:
		p.States = oneOf(c, 1, 2, 3, 4, 5, 6, 7, 8, 10, -1, most)
	}
	p.Tag = oneOf(c, "", "", "", "a", "b", "c")
	return p
}

// someSelector is a selector of n parts that ask for little, and looks like chance.
func someSelector(c *chance, n int) api.Selector {
	var s api.Selector
	for range n {
		s.Parts = append(s.Parts, somePart(c))
	}
	return s
}

// TestExamples: the chapter's own.
func TestExamples(t *testing.T) {
	l := page(t, "a{b{c} d.x}")
	for s, want := range map[string][]int{"a > d.x": {3}, "b c": {2}, "c + d": nil, "b + d": {3}, ":last-child": {0, 2, 3}} {
		if got := match.All(l, selectors(t, s)); !slices.Equal(got, want) {
			t.Errorf("%q picks %v, not %v", s, got, want)
		}
	}
}

// TestPart: P13.1 of one part.
func TestPart(t *testing.T) {
	n := api.Node{Parent: -1, Tag: "a", ID: "b", Classes: []string{"c", "d"}, Attrs: []api.Attr{{Name: "e"}, {Name: "f", Value: "g"}, {Name: "f", Value: "h"}}}
	tests := func(l ...api.Test) api.Part { return api.Part{Tests: l} }
	for _, p := range []api.Part{
		{}, {Tag: "a"}, {ID: "b"}, {Tag: "a", ID: "b"}, {Classes: []string{"c"}}, {Classes: []string{"d", "c"}}, {Classes: []string{"c", "c", "c"}},
		tests(api.Test{Name: "e"}), tests(api.Test{Name: "e", Equal: true}), tests(api.Test{Name: "f"}), tests(api.Test{Name: "f", Equal: true, Value: "g"}), tests(api.Test{Name: "f", Equal: true, Value: "g"}, api.Test{Name: "e"}),
		// A Value counts only where it is asked for, a Comb not at all.
		tests(api.Test{Name: "f", Value: "z"}), {Comb: 3}, {Comb: least},
		{States: 1}, {States: 2}, {States: 4}, {States: 7}, {Tag: "a", ID: "b", Classes: []string{"c", "d"}, Tests: []api.Test{{Name: "e"}}, States: 7},
	} {
		if !match.Part([]api.Node{n}, 0, p) {
			t.Errorf("%v does not pick it", p)
		}
	}
	for _, p := range []api.Part{
		{Tag: "b"}, {Tag: "A"}, {Tag: "aa"}, {Tag: "*"}, {ID: "a"}, {ID: "B"}, {Tag: "a", ID: "c"}, {Tag: "b", ID: "b"}, {Classes: []string{"a"}}, {Classes: []string{"c", "a"}}, {Classes: []string{"a", "c"}}, {Classes: []string{""}}, {Classes: []string{"C"}},
		tests(api.Test{}), tests(api.Test{Name: "g"}), tests(api.Test{Name: "e", Equal: true, Value: "g"}), tests(api.Test{Name: "f", Equal: true}), tests(api.Test{Name: "f"}, api.Test{Name: "a"}), tests(api.Test{Name: "a"}, api.Test{Name: "f"}), tests(api.Test{Name: "g", Equal: true, Value: "g"}),
		// Of two attributes of one name the first one counts.
		tests(api.Test{Name: "f", Equal: true, Value: "h"}),
	} {
		if match.Part([]api.Node{n}, 0, p) {
			t.Errorf("%v picks it", p)
		}
	}
	// Words are picked by none, nor is what is not there.
	words := n
	words.Tag = ""
	l := []api.Node{n, words, {Parent: 0, Text: "x"}}
	for _, i := range []int{least, -1, 1, 2, 3, 1 << 32, most} {
		if match.Part(l, i, api.Part{}) || match.Picks(l, i, of(api.Part{})) {
			t.Errorf("%d is picked", i)
		}
	}
	if match.Part(nil, 0, api.Part{}) || match.Picks(nil, 0, of(api.Part{})) {
		t.Error("of no nodes one is picked")
	}
}

// TestStates: P13.1: who is first, who is last, and who the root.
func TestStates(t *testing.T) {
	l := page(t, `a{"x" b "y" c{"z" d "z"} "x" e "y"}`)
	// What has no parent has no siblings, be it what it may.
	roots := []api.Node{{Parent: -1, Tag: "a"}, {Parent: -1, Tag: "b"}, {Parent: 9, Tag: "c"}, {Parent: 3, Tag: "d"}}
	// Words may be parents, in a list that is no tree, and who has one parent may stand far apart.
	far := []api.Node{{Parent: -1}, {Parent: 0, Tag: "a"}, {Parent: 1, Tag: "b"}, {Parent: 1, Tag: "c"}, {Parent: 0}, {Parent: 0, Tag: "d"}, {Parent: 1, Tag: "e"}}
	for _, c := range []struct {
		l                 []api.Node
		root, first, last []int
	}{
		{l, []int{0}, []int{0, 2, 6}, []int{0, 6, 9}},
		{roots, []int{0}, []int{0, 1, 2, 3}, []int{0, 1, 2, 3}},
		{far, nil, []int{1, 2}, []int{5, 6}},
	} {
		all := []api.Selector{of(api.Part{States: 1}), of(api.Part{States: 2}), of(api.Part{States: 4})}
		for k, want := range [][]int{c.root, c.first, c.last} {
			if got := match.All(c.l, all[k:k+1]); !slices.Equal(got, want) {
				t.Errorf("%v: state %d: %v, not %v", c.l, 1<<k, got, want)
			}
		}
	}
	both := page(t, "a{b{c} d e}")
	for states, want := range map[int][]int{
		0: {0, 1, 2, 3, 4}, 3: {0}, 5: {0}, 6: {0, 2}, 7: {0},
		// Only the three tell anything, and a number below 0 nothing.
		8: {0, 1, 2, 3, 4}, 10: {0, 1, 2}, 1<<32 + 4: {0, 2, 4}, most: {0}, most - 7: {0, 1, 2, 3, 4}, -1: {0, 1, 2, 3, 4}, -4: {0, 1, 2, 3, 4}, least + 1: {0, 1, 2, 3, 4},
	} {
		if got := match.All(both, []api.Selector{of(api.Part{States: states})}); !slices.Equal(got, want) {
			t.Errorf("States %d: %v, not %v", states, got, want)
		}
	}
}

// TestPicks: P13.1 of texts.
func TestPicks(t *testing.T) {
	//       0  1    2  3   4  5   6   7  8   9
	const s = `a{b#i{c "w" c.x{b}} "w" b.x{c} d[k="v"]}`
	l := page(t, s)
	for s, want := range map[string][]int{
		"*": {0, 1, 2, 4, 5, 7, 8, 9}, "a": {0}, "b": {1, 5, 7}, "x": nil, "#i": {1}, ".x": {4, 7}, "b.x": {7}, "[k]": {9}, "[k=v]": {9}, "[k=w]": nil, "[v]": nil,
		"a b": {1, 5, 7}, "a > b": {1, 7}, "b b": {5}, "b > b": nil, "a a": nil, "a c": {2, 4, 8}, "a > c": nil, "b c": {2, 4, 8}, "a > b > c": {2, 4, 8}, "a b c b": {5}, "#i b": {5}, "#i > b": nil, "* > *": {1, 2, 4, 5, 7, 8, 9}, "* *": {1, 2, 4, 5, 7, 8, 9}, "* * *": {2, 4, 5, 8}, "* * * *": {5}, "* * * * *": nil,
		// Words are no siblings.
		"b + b": {7}, "b ~ b": {7}, "c + c": {4}, "c + b": nil, "b + d": {9}, "#i + d": nil, "#i ~ d": {9}, "b ~ d": {9}, "d ~ b": nil, "* + *": {4, 7, 9}, "* ~ *": {4, 7, 9}, "* + * + *": {9}, "* ~ * ~ *": {9}, "* ~ * ~ * ~ *": nil, "a + *": nil, ":root ~ *": nil,
		"#i + b > c": {8}, "#i ~ b c": {8}, "c + c > b": {5}, "c b ~ *": nil, "b:first-child > c:last-child": {4}, ":root > :last-child": {9}, ":root": {0}, "* :root": nil, "b :first-child": {2, 5, 8}, "b :last-child": {4, 5, 8}, ":first-child + *": {4, 7}, ":first-child + :last-child": {4}, "*:first-child:last-child": {0, 5, 8},
		// Not the nearest one that will do, but any.
		"a > b b": {5}, "#i > c b": {5}, "a > b + b > c": {8}, "#i ~ * ~ d": {9},
		"a, d": {0, 9}, "d, a, a": {0, 9}, "x, d": {9}, "b c, .x": {2, 4, 7, 8},
	} {
		if got := match.All(l, selectors(t, s)); !slices.Equal(got, want) {
			t.Errorf("%q picks %v, not %v", s, got, want)
		}
		for _, one := range selectors(t, s) {
			reckoned(t, l, one)
		}
	}
	// Whatever way one goes up, all are tried: the nearest ones do not stand within c.
	deep := page(t, "c{a{b{a{x{b{d}}}}}}")
	if got := match.All(deep, selectors(t, "c > a > b d")); !slices.Equal(got, []int{6}) {
		t.Error(got)
	}
}

// TestPicksOdd: P13.1: no parts pick nothing, nor does a Comb that is none of the four.
func TestPicksOdd(t *testing.T) {
	l := page(t, "a{b{c} d}")
	for i := range l {
		for _, s := range []api.Selector{{}, {Parts: []api.Part{}}} {
			if match.Picks(l, i, s) {
				t.Errorf("nothing picks %d", i)
			}
		}
		for _, comb := range []int{least, -1, 0, 5, 1 << 32, 1<<32 + 1, most} {
			// The first one's Comb says nothing.
			if !match.Picks(l, i, of(api.Part{Comb: comb})) {
				t.Errorf("Comb %d of a first part: not %d", comb, i)
			}
			if match.Picks(l, i, of(api.Part{}, api.Part{Comb: comb})) || match.Picks(l, i, of(api.Part{}, api.Part{Comb: comb}, api.Part{Comb: api.Beneath})) {
				t.Errorf("Comb %d: %d is picked", comb, i)
			}
		}
	}
	for comb, want := range map[int][]int{1: {1, 2, 3}, 2: {1, 2, 3}, 3: {3}, 4: {3}} {
		if got := match.All(l, []api.Selector{of(api.Part{Comb: most}, api.Part{Comb: comb})}); !slices.Equal(got, want) {
			t.Errorf("Comb %d: %v", comb, got)
		}
	}
	// More parts than a right selector has.
	chain := page(t, strings.Repeat("a{", 19)+"a"+strings.Repeat("}", 19))
	for n := 1; n <= 22; n++ {
		s := of(slices.Repeat([]api.Part{{Comb: api.Child}}, n)...)
		if got := len(match.All(chain, []api.Selector{s})); got != max(20-n+1, 0) {
			t.Errorf("%d parts: %d", n, got)
		}
	}
}

// TestBest: P13.2.
func TestBest(t *testing.T) {
	l := page(t, `a#i.x{b.x.y "w"}`)
	for _, c := range []struct {
		i    int
		s    string
		want [3]int
		ok   bool
	}{
		{0, "a", [3]int{0, 0, 1}, true}, {0, "*", [3]int{}, true}, {0, "b", [3]int{}, false}, {0, "*, a, #i, .x", [3]int{1, 0, 0}, true}, {0, "#i, .x, a, *", [3]int{1, 0, 0}, true}, {0, "a, a.x, a", [3]int{0, 1, 1}, true}, {0, ".x, a:root", [3]int{0, 1, 1}, true},
		// What does not pick it does not count.
		{0, "a, #i *.x, #j.x", [3]int{0, 0, 1}, true}, {0, "#j, b", [3]int{}, false}, {1, "#i .x.y, #i b, b", [3]int{1, 2, 0}, true}, {1, "#i #i, .x .y, .x > .y.x", [3]int{0, 3, 0}, true}, {1, "b.x.y.x.y, #i *", [3]int{1, 0, 0}, true},
		{2, "*", [3]int{}, false}, {-1, "*", [3]int{}, false}, {3, "*", [3]int{}, false}, {most, "*", [3]int{}, false}, {least, "*", [3]int{}, false},
	} {
		if got, ok := match.Best(l, c.i, selectors(t, c.s)); got != c.want || ok != c.ok {
			t.Errorf("%q of %d: %v, %t", c.s, c.i, got, ok)
		}
	}
	if got, ok := match.Best(l, 0, nil); got != [3]int{} || ok {
		t.Error(got, ok)
	}
	if got, ok := match.Best(l, 0, []api.Selector{{}}); got != [3]int{} || ok {
		t.Error(got, ok)
	}
}

// TestListsReckoned: P13.2 of many lists of selectors.
func TestListsReckoned(t *testing.T) {
	c := chance(5)
	for range 5000 {
		l := someList(&c, 1+c.below(8))
		var s []api.Selector
		for range c.below(5) {
			s = append(s, someSelector(&c, 1+c.below(3)))
		}
		var all []int
		for i := range l {
			var weights [][3]int
			for _, one := range s {
				if picksOf(l, i, one.Parts) {
					weights = append(weights, selector.Weight(one))
				}
			}
			var best [3]int
			if len(weights) > 0 {
				all = append(all, i)
				best = slices.MaxFunc(weights, selector.Compare)
			}
			if got, ok := match.Best(l, i, s); got != best || ok != (len(weights) > 0) {
				t.Fatalf("%v of %d of %v: %v, %t", s, i, l, got, ok)
			}
		}
		if got := match.All(l, s); !slices.Equal(got, all) {
			t.Fatalf("%v of %v: %v, not %v", s, l, got, all)
		}
	}
}

// within tells whether all that a selector picks is picked by another one, too.
func within(l []api.Node, few, many api.Selector) bool {
	all := match.All(l, []api.Selector{many})
	for _, i := range match.All(l, []api.Selector{few}) {
		if !slices.Contains(all, i) {
			return false
		}
	}
	return true
}

// TestFewer: P13.3: one more part ahead, or one more mark, picks no more.
func TestFewer(t *testing.T) {
	c := chance(7)
	fewer := 0
	for range 10000 {
		l := someList(&c, 1+c.below(9))
		s := someSelector(&c, 1+c.below(3))
		more := of(slices.Clone(s.Parts)...)
		one := somePart(&c)
		p := &more.Parts[c.below(len(more.Parts))]
		switch c.below(7) {
		case 0:
			more.Parts = append([]api.Part{one}, more.Parts...)
		case 1:
			p.Classes = append(slices.Clone(p.Classes), oneOf(&c, "a", "b"))
		case 2:
			p.Tests = append(slices.Clone(p.Tests), api.Test{Name: oneOf(&c, "a", "b"), Equal: c.below(2) == 0, Value: "x"})
		case 3:
			if p.States >= 0 {
				p.States |= 1 << c.below(3)
			}
		case 4:
			if p.Tag == "" {
				p.Tag = oneOf(&c, "a", "b")
			}
		case 5:
			if p.ID == "" {
				p.ID = oneOf(&c, "a", "b")
			}
		default:
			if len(p.Tests) > 0 {
				p.Tests = slices.Clone(p.Tests)
				p.Tests[0].Equal = true
			}
		}
		if !within(l, more, s) {
			t.Fatalf("of %v %v picks more than %v", l, more, s)
		}
		if !within(l, s, more) {
			fewer++
		}
	}
	if fewer < 500 {
		t.Errorf("%d pick fewer", fewer)
	}
}

// TestWider: P13.4: what Child picks Beneath picks, what Next picks Later picks.
func TestWider(t *testing.T) {
	c := chance(11)
	for _, pair := range [][2]int{{api.Child, api.Beneath}, {api.Next, api.Later}} {
		wider := 0
		for range 5000 {
			l := someList(&c, 1+c.below(12))
			parts := []api.Part{{Tag: oneOf(&c, "a", "b")}}
			for range 1 + c.below(2) {
				parts = append(parts, api.Part{Comb: 1 + c.below(api.Later), Tag: oneOf(&c, "", "", "a", "b")})
			}
			k := 1 + c.below(len(parts)-1)
			parts[k].Comb = pair[0]
			other := slices.Clone(parts)
			other[k].Comb = pair[1]
			if !within(l, of(parts...), of(other...)) {
				t.Fatalf("of %v %v picks more than %v", l, parts, other)
			}
			if !within(l, of(other...), of(parts...)) {
				wider++
			}
		}
		if wider < 100 {
			t.Errorf("Comb %d: %d pick more", pair[1], wider)
		}
	}
}

// TestSilent: what is handed in stays as it is, and what is answered is new each time.
func TestSilent(t *testing.T) {
	c := chance(13)
	for range 500 {
		l := someList(&c, 6)
		s := []api.Selector{someSelector(&c, 2), someSelector(&c, 1), of(api.Part{})}
		wasList, wasSels := copied(l), []api.Selector{copiedSel(s[0]), copiedSel(s[1]), copiedSel(s[2])}
		all := match.All(l, s)
		for i := range l {
			match.Best(l, i, s)
			match.Picks(l, i, s[0])
			match.Part(l, i, s[1].Parts[0])
		}
		if !slices.EqualFunc(l, wasList, sameNode) || !selector.Same(s, wasSels) {
			t.Fatalf("%v was %v, %v was %v", l, wasList, s, wasSels)
		}
		again := slices.Clone(all)
		clear(all[:cap(all)])
		if got := match.All(l, s); !slices.Equal(got, again) {
			t.Fatalf("%v was %v", got, again)
		}
	}
}

func copied(l []api.Node) []api.Node {
	l = slices.Clone(l)
	for i := range l {
		l[i].Classes, l[i].Attrs = slices.Clone(l[i].Classes), slices.Clone(l[i].Attrs)
	}
	return l
}

func copiedSel(s api.Selector) api.Selector {
	s.Parts = slices.Clone(s.Parts)
	for i := range s.Parts {
		s.Parts[i].Classes, s.Parts[i].Tests = slices.Clone(s.Parts[i].Classes), slices.Clone(s.Parts[i].Tests)
	}
	return s
}

func sameNode(a, b api.Node) bool {
	return a.Parent == b.Parent && a.Tag == b.Tag && a.ID == b.ID && a.Text == b.Text && slices.Equal(a.Classes, b.Classes) && slices.Equal(a.Attrs, b.Attrs)
}

// TestAnything: P1: every call ends and none panics, whatever it is given.
func TestAnything(t *testing.T) {
	c := chance(17)
	few := []int{least, -1, 0, 1, 5, 1 << 32, most}
	for range 3000 {
		l := someList(&c, c.below(12))
		s := someSelector(&c, c.below(12))
		for k := range s.Parts {
			s.Parts[k].States = oneOf(&c, few...)
			if c.below(3) == 0 {
				s.Parts[k].Comb = oneOf(&c, few...)
			}
		}
		for _, i := range append(few, len(l), len(l)-1) {
			match.Part(l, i, somePart(&c))
			match.Picks(l, i, s)
			match.Best(l, i, []api.Selector{s, {}})
		}
		match.All(l, []api.Selector{{}, s})
		match.All(l, nil)
	}
}

// TestEnds: P1: however many ways lead to what picks nothing in the end, they are not all gone one by one.
func TestEnds(t *testing.T) {
	const n = 500
	deep, flat := []api.Node{{Parent: -1, Tag: "a"}}, []api.Node{{Parent: -1, Tag: "a"}}
	for i := 1; i < n; i++ {
		deep = append(deep, api.Node{Parent: i - 1, Tag: "a"})
		flat = append(flat, api.Node{Parent: 0, Tag: "a"})
	}
	for _, c := range []struct {
		l    []api.Node
		comb int
		// How many parts may stand one around the other there.
		longest int
	}{
		{deep, api.Beneath, n}, {deep, api.Child, n}, {deep, api.Next, 1}, {deep, api.Later, 1},
		{flat, api.Beneath, 2}, {flat, api.Child, 2}, {flat, api.Next, n - 1}, {flat, api.Later, n - 1},
	} {
		for _, many := range []int{8, 100, n - 1, n, 1 << 16} {
			parts := slices.Repeat([]api.Part{{Comb: c.comb}}, many)
			if got := match.Picks(c.l, n-1, of(parts...)); got != (many <= c.longest) {
				t.Errorf("%d parts with Comb %d: %t", many, c.comb, got)
			}
			parts[0].Tag = "b"
			if match.Picks(c.l, n-1, of(parts...)) {
				t.Errorf("%d parts with Comb %d pick", many, c.comb)
			}
		}
		parts := slices.Repeat([]api.Part{{Comb: c.comb}}, 8)
		if got, want := len(match.All(c.l, []api.Selector{of(parts...)})), max(c.longest-7, 0); got != want {
			t.Errorf("Comb %d: %d are picked, not %d", c.comb, got, want)
		}
		parts[0].Tag = "b"
		if got := match.All(c.l, []api.Selector{of(parts...)}); len(got) > 0 {
			t.Errorf("Comb %d: %v", c.comb, got)
		}
	}
	// Ways of every kind, one behind the other, through a list in which many lead to the same nodes.
	wide := page(t, "a{"+strings.Repeat("a{"+strings.Repeat("a ", 20)+"} ", 20)+"}")
	for _, combs := range [][]int{{1, 4}, {4, 2}, {1, 2}, {4, 1, 3}, {3, 4, 2, 1}} {
		parts := []api.Part{{Tag: "b"}}
		for i := range 40 {
			parts = append(parts, api.Part{Comb: combs[i%len(combs)]})
		}
		if got := match.All(wide, []api.Selector{of(parts...)}); len(got) > 0 {
			t.Errorf("%v: %v", combs, got)
		}
	}
}
