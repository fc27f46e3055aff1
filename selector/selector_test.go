package selector_test

import (
	"math"
	"slices"
	"strings"
	"testing"

	"wainscot/api"
	"wainscot/lex"
	"wainscot/selector"
	"wainscot/tree"
)

const (
	least = math.MinInt
	most  = math.MaxInt
)

// chance hands out numbers that look like chance, the same ones in every run.
type chance uint64

func (c *chance) below(n int) int {
	*c = *c*6364136223846793005 + 1442695040888963407
	return int(uint64(*c)>>33) % n
}

// oneOf is one of some.
func oneOf[T any](c *chance, l ...T) T {
	return l[c.below(len(l))]
}

// cut answers a text's tokens.
func cut(t *testing.T, s string) []api.Token {
	t.Helper()
	l, e := lex.Lex(s)
	if e != api.OK {
		t.Fatalf("%q: %d", s, e)
	}
	return l
}

// of is the selector of some parts.
func of(parts ...api.Part) api.Selector {
	return api.Selector{Parts: parts}
}

// chain is a selector of n equal parts, each Beneath the one ahead.
func chain(n int, p api.Part) api.Selector {
	var s api.Selector
	for i := range n {
		p.Comb = min(i, api.Beneath)
		s.Parts = append(s.Parts, p)
	}
	return s
}

// somePart is a right part that looks like chance, be its Comb what it may.
func somePart(c *chance) api.Part {
	var p api.Part
	name := func() string {
		return oneOf(c, "a", "b", "-c", "--", "_1", "root", "last-child", "\x80", strings.Repeat("d", api.MaxName))
	}
	if c.below(2) == 0 {
		p.Tag = name()
	}
	if c.below(3) == 0 {
		p.ID = name()
	}
	few := func() int { return oneOf(c, 0, 0, 0, 1, 2, api.MaxMarks) }
	for range few() {
		p.Classes = append(p.Classes, name())
	}
	for range few() {
		test := api.Test{Name: name(), Equal: c.below(2) == 0}
		if test.Equal {
			test.Value = oneOf(c, "", "x", " ", "]", ",", "'", "a b", "/*", "\\", strings.Repeat("y", api.MaxWords))
		}
		p.Tests = append(p.Tests, test)
	}
	p.States = oneOf(c, 0, 0, c.below(8))
	return p
}

// someSelector is a right selector that looks like chance.
func someSelector(c *chance) api.Selector {
	var s api.Selector
	for range 1 + c.below(api.MaxParts) {
		p := somePart(c)
		if len(s.Parts) > 0 {
			p.Comb = 1 + c.below(api.Later)
		}
		s.Parts = append(s.Parts, p)
	}
	return s
}

// TestRightParts: P7.1: how many parts, and how they are joined.
func TestRightParts(t *testing.T) {
	for n := range 12 {
		if got := selector.Right(chain(n, api.Part{Tag: "a"})); got != (n >= 1 && n <= 8) {
			t.Errorf("%d parts: %t", n, got)
		}
	}
	for _, comb := range []int{least, -1, 0, 1, 2, 3, 4, 5, 1 << 32, most} {
		for i := range 3 {
			s := chain(3, api.Part{Tag: "a"})
			s.Parts[i].Comb = comb
			want := comb >= 1 && comb <= 4
			if i == 0 {
				want = comb == 0
			}
			if got := selector.Right(s); got != want {
				t.Errorf("part %d with Comb %d: %t", i, comb, got)
			}
		}
	}
}

// TestRightMarks: P7.1: what a part may have, whichever part it is.
func TestRightMarks(t *testing.T) {
	long := strings.Repeat("a", api.MaxName)
	words := strings.Repeat(" ", api.MaxWords)
	right := []api.Part{
		{}, {Tag: "a"}, {Tag: long}, {ID: "a"}, {ID: long}, {ID: "--"}, {Tag: "\xff"}, {Classes: []string{}, Tests: []api.Test{}},
		{Classes: slices.Repeat([]string{"a"}, 8)}, {Classes: []string{long, "a"}}, {Tests: slices.Repeat([]api.Test{{Name: "a"}}, 8)},
		{Tests: []api.Test{{Name: long}, {Name: "a", Equal: true}, {Name: "a", Equal: true, Value: words}, {Name: "a", Equal: true, Value: "'x'"}}},
		{States: 1}, {States: 2}, {States: 3}, {States: 4}, {States: 5}, {States: 6}, {States: 7},
		{Tag: "a", ID: "a", Classes: slices.Repeat([]string{"a"}, 8), Tests: slices.Repeat([]api.Test{{Name: "a", Equal: true, Value: "b"}}, 8), States: 7},
	}
	odd := []api.Part{
		{Tag: "1"}, {Tag: long + "a"}, {Tag: "-"}, {Tag: "*"}, {Tag: " "}, {ID: "1"}, {ID: long + "a"}, {ID: "#a"}, {ID: "a b"},
		{Classes: []string{""}}, {Classes: []string{"a", "1"}}, {Classes: []string{long + "a"}}, {Classes: []string{".a"}}, {Classes: slices.Repeat([]string{"a"}, 9)},
		{Tests: []api.Test{{}}}, {Tests: []api.Test{{Name: "1"}}}, {Tests: []api.Test{{Name: "a"}, {Name: long + "a"}}}, {Tests: []api.Test{{Equal: true}}}, {Tests: []api.Test{{Name: "", Equal: true, Value: "a"}}},
		{Tests: []api.Test{{Name: "a", Value: "b"}}}, {Tests: []api.Test{{Name: "a", Value: " "}}},
		{Tests: []api.Test{{Name: "a", Equal: true, Value: words + " "}}}, {Tests: []api.Test{{Name: "a", Equal: true, Value: `"`}}}, {Tests: []api.Test{{Name: "a", Equal: true, Value: "b\n"}}},
		{Tests: slices.Repeat([]api.Test{{Name: "a"}}, 9)}, {States: -1}, {States: 8}, {States: 9}, {States: least}, {States: most}, {States: 1 << 32},
	}
	check := func(p api.Part, want bool) {
		for i := range 3 {
			s := chain(3, api.Part{Tag: "a"})
			p.Comb = s.Parts[i].Comb
			s.Parts[i] = p
			if got := selector.Right(s); got != want {
				t.Errorf("part %d is %v: %t", i, p, got)
			}
		}
	}
	for _, p := range right {
		check(p, true)
	}
	for _, p := range odd {
		check(p, false)
	}
}

// weightOf is Weight by the chapter's words.
func weightOf(s api.Selector) [3]int {
	var w [3]int
	for _, p := range s.Parts {
		if p.ID != "" {
			w[0]++
		}
		w[1] += len(p.Classes) + len(p.Tests)
		for _, state := range []int{api.IsRoot, api.IsFirst, api.IsLast} {
			if p.States > 0 && p.States/state%2 == 1 {
				w[1]++
			}
		}
		if p.Tag != "" {
			w[2]++
		}
	}
	return w
}

// TestWeight: P7.1.
func TestWeight(t *testing.T) {
	for _, c := range []struct {
		s    api.Selector
		want [3]int
	}{
		{api.Selector{}, [3]int{}}, {of(api.Part{}), [3]int{}}, {of(api.Part{Tag: "a"}), [3]int{0, 0, 1}}, {of(api.Part{ID: "a"}), [3]int{1, 0, 0}},
		{of(api.Part{Classes: []string{"a", "b"}}), [3]int{0, 2, 0}}, {of(api.Part{Tests: []api.Test{{Name: "a"}, {Name: "a", Equal: true}}}), [3]int{0, 2, 0}},
		{of(api.Part{Tag: "a", ID: "b"}, api.Part{Comb: 2, Classes: []string{"c"}}), [3]int{1, 1, 1}}, {of(api.Part{Tag: "long", ID: "long", Classes: []string{""}, Tests: []api.Test{{}}, States: 5}), [3]int{1, 4, 1}},
		{chain(8, api.Part{Tag: "a", ID: "b", Classes: []string{"c"}, States: 1}), [3]int{8, 16, 8}},
		// Weighed is what is not right, too.
		{chain(20, api.Part{Tag: "1", Classes: slices.Repeat([]string{""}, 30)}), [3]int{0, 600, 20}}, {of(api.Part{Comb: 9}), [3]int{}},
	} {
		if got := selector.Weight(c.s); got != c.want {
			t.Errorf("%v: %v, not %v", c.s, got, c.want)
		}
	}
	// Only the three states count, and none of a number below 0.
	for states, want := range map[int]int{0: 0, 1: 1, 2: 1, 3: 2, 4: 1, 5: 2, 6: 2, 7: 3, 8: 0, 9: 1, 15: 3, 16: 0, 1 << 32: 0, most: 3, most - 7: 0, -1: 0, -8: 0, -7: 0, least: 0, least + 7: 0} {
		if got := selector.Weight(of(api.Part{States: states})); got != [3]int{0, want, 0} {
			t.Errorf("States %d: %v", states, got)
		}
	}
}

// TestWeightSum: P7.5.
func TestWeightSum(t *testing.T) {
	c := chance(5)
	for range 2000 {
		s := someSelector(&c)
		if c.below(4) == 0 {
			s.Parts[c.below(len(s.Parts))].States = c.below(100) - 50
		}
		var sum [3]int
		for _, p := range s.Parts {
			for i, n := range selector.Weight(of(p)) {
				sum[i] += n
			}
		}
		if got := selector.Weight(s); got != sum || got != weightOf(s) {
			t.Fatalf("%v: %v, its parts' %v, not %v", s, got, sum, weightOf(s))
		}
	}
}

// TestCompare: P7.1: the first number counts first.
func TestCompare(t *testing.T) {
	few := []int{least, -1, 0, 1, 2, most}
	var all [][3]int
	for _, a := range few {
		for _, b := range few {
			for _, c := range few {
				all = append(all, [3]int{a, b, c})
			}
		}
	}
	// They were made rising.
	for i, a := range all {
		for k, b := range all {
			want := 0
			if i < k {
				want = -1
			} else if i > k {
				want = 1
			}
			if got := selector.Compare(a, b); got != want {
				t.Fatalf("%v and %v: %d, not %d", a, b, got, want)
			}
		}
	}
}

// TestSame: P7.1.
func TestSame(t *testing.T) {
	full := func() []api.Selector {
		p := api.Part{Tag: "a", ID: "b", Classes: []string{"c", "d"}, Tests: []api.Test{{Name: "e"}, {Name: "f", Equal: true, Value: "g"}}, States: 5}
		return []api.Selector{chain(2, p), chain(3, p)}
	}
	if !selector.Same(full(), full()) {
		t.Error("the same are not")
	}
	for i, change := range []func(l []api.Selector) []api.Selector{
		func(l []api.Selector) []api.Selector { return l[:1] },
		func(l []api.Selector) []api.Selector { return nil },
		func(l []api.Selector) []api.Selector { return append(l, l[0]) },
		func(l []api.Selector) []api.Selector { return []api.Selector{l[1], l[0]} },
		func(l []api.Selector) []api.Selector { l[1].Parts = l[1].Parts[:2]; return l },
		func(l []api.Selector) []api.Selector { l[1].Parts = nil; return l },
		func(l []api.Selector) []api.Selector { l[1].Parts[2].Comb = 2; return l },
		func(l []api.Selector) []api.Selector { l[1].Parts[2].Tag = "b"; return l },
		func(l []api.Selector) []api.Selector { l[1].Parts[1].ID = ""; return l },
		func(l []api.Selector) []api.Selector { l[0].Parts[0].States = 4; return l },
		func(l []api.Selector) []api.Selector { l[0].Parts[0].Classes = []string{"d", "c"}; return l },
		func(l []api.Selector) []api.Selector { l[0].Parts[0].Classes = []string{"c"}; return l },
		func(l []api.Selector) []api.Selector { l[0].Parts[1].Tests = []api.Test{{Name: "e"}}; return l },
		func(l []api.Selector) []api.Selector {
			l[0].Parts[1].Tests = []api.Test{{Name: "h"}, {Name: "f", Equal: true, Value: "g"}}
			return l
		},
		func(l []api.Selector) []api.Selector {
			l[0].Parts[1].Tests = []api.Test{{Name: "e", Equal: true}, {Name: "f", Equal: true, Value: "g"}}
			return l
		},
		func(l []api.Selector) []api.Selector {
			l[0].Parts[1].Tests = []api.Test{{Name: "e"}, {Name: "f", Equal: true, Value: "h"}}
			return l
		},
	} {
		if changed := change(full()); selector.Same(full(), changed) || selector.Same(changed, full()) {
			t.Errorf("change %d: the same", i)
		}
	}
	// A list without elements may be nil or empty.
	empty := []api.Part{{Classes: []string{}, Tests: []api.Test{}}}
	if !selector.Same(nil, []api.Selector{}) || !selector.Same([]api.Selector{{}}, []api.Selector{{Parts: []api.Part{}}}) || !selector.Same([]api.Selector{{Parts: empty}}, []api.Selector{of(api.Part{})}) {
		t.Error("empty lists are not the same")
	}
	if selector.Same(nil, []api.Selector{{}}) || selector.Same([]api.Selector{{}}, []api.Selector{of(api.Part{})}) {
		t.Error("nothing is the same as something")
	}
}

// oddSelector is a selector that looks like chance, most often one that is not right.
func oddSelector(c *chance) api.Selector {
	s := someSelector(c)
	few := []int{least, -1, 0, 3, 7, 8, 1 << 32, most}
	for range c.below(4) {
		p := &s.Parts[c.below(len(s.Parts))]
		switch c.below(6) {
		case 0:
			p.Comb = oneOf(c, few...)
		case 1:
			p.States = oneOf(c, few...)
		case 2:
			p.Tag, p.ID = oneOf(c, "", "1", "\x00"), oneOf(c, "", "1", "\x00")
		case 3:
			p.Classes = slices.Repeat([]string{oneOf(c, "", "a", "\x00")}, c.below(12))
		case 4:
			p.Tests = slices.Repeat([]api.Test{{Name: oneOf(c, "", "a", "\x00"), Equal: c.below(2) == 0, Value: oneOf(c, "", "a", "\x00")}}, c.below(12))
		default:
			s.Parts = slices.Repeat(s.Parts, c.below(4))
			if len(s.Parts) == 0 {
				return s
			}
		}
	}
	return s
}

// rightOf is Right by the chapter's words.
func rightOf(s api.Selector) bool {
	may := func(name string) bool { return name == "" || tree.Name(name) }
	ok := len(s.Parts) >= 1 && len(s.Parts) <= 8
	for i, p := range s.Parts {
		ok = ok && (i == 0 && p.Comb == 0 || i > 0 && p.Comb >= 1 && p.Comb <= 4)
		ok = ok && may(p.Tag) && may(p.ID) && len(p.Classes) <= 8 && len(p.Tests) <= 8 && slices.Contains([]int{0, 1, 2, 3, 4, 5, 6, 7}, p.States)
		for _, c := range p.Classes {
			ok = ok && tree.Name(c)
		}
		for _, t := range p.Tests {
			ok = ok && tree.Name(t.Name) && (t.Equal && tree.Text(t.Value) || !t.Equal && t.Value == "")
		}
	}
	return ok
}

// TestRightReckoned: P7.1 of many selectors.
func TestRightReckoned(t *testing.T) {
	c := chance(7)
	right := 0
	for range 10000 {
		s := oddSelector(&c)
		want := rightOf(s)
		if got := selector.Right(s); got != want {
			t.Fatalf("%v: %t", s, got)
		}
		if want {
			right++
		}
	}
	if right < 1000 || right > 9000 {
		t.Errorf("%d are right", right)
	}
}

// TestAnything: P1: every call ends and none panics, whatever it is given.
func TestAnything(t *testing.T) {
	c := chance(9)
	var was []api.Selector
	for range 3000 {
		var l []api.Selector
		for range c.below(4) {
			l = append(l, oddSelector(&c))
		}
		for _, s := range append(l, api.Selector{}, of(api.Part{Comb: least})) {
			selector.Right(s)
			selector.Weight(s)
		}
		selector.Same(l, was)
		selector.Same(l, l)
		selector.Print(l)
		was = l
	}
	many := slices.Repeat([]api.Part{{Comb: 1, States: -1}}, 1<<16)
	selector.Right(api.Selector{Parts: many})
	selector.Weight(api.Selector{Parts: many})
	selector.Print([]api.Selector{{Parts: many}})
	selector.Print(slices.Repeat([]api.Selector{chain(8, api.Part{Tag: "a"})}, 1<<12))
	odd := []int{least, least + 1, -1, 0, 21, 1 << 32, most}
	for range 5000 {
		var l []api.Token
		for range c.below(20) {
			kind := c.below(api.Space + 2)
			if c.below(6) == 0 {
				kind = oneOf(&c, odd...)
			}
			l = append(l, api.Token{Kind: kind, Text: oneOf(&c, "", "a", ".", ">", "*", "=", "root", "\x00\xff"), N: oneOf(&c, odd...)})
		}
		selector.Parse(l)
	}
	// However many of one, and however deep.
	for _, k := range alphabet() {
		selector.Parse(slices.Repeat([]api.Token{k}, 1<<16))
		selector.Parse(append([]api.Token{{Kind: api.Ident, Text: "a"}}, slices.Repeat([]api.Token{k}, 1<<16)...))
	}
}
