package truth_test

import (
	"math"
	"slices"
	"testing"

	"wainscot/api"
	"wainscot/lex"
	"wainscot/query"
	"wainscot/truth"
)

const (
	least = math.MinInt
	most  = math.MaxInt
)

// chance hands out numbers that look like chance, the same ones in every run.
type chance uint64

func (c *chance) below(n int) int {
	*c = *c*6364136223846793005 + 1442695040888963407
	return int(uint64(*c)>>33) % n
}

// oneOf is one of some.
func oneOf[T any](c *chance, l ...T) T {
	return l[c.below(len(l))]
}

// asked is a text's query.
func asked(t *testing.T, s string) api.Query {
	t.Helper()
	k, e := lex.Lex(s)
	q, e2 := query.Parse(k)
	if e != api.OK || e2 != api.OK {
		t.Fatalf("%q: %d, %d", s, e, e2)
	}
	return q
}

// The makers of nodes and queries.

func node(kind, count int) api.QNode  { return api.QNode{Kind: kind, Count: count} }
func of(nodes ...api.QNode) api.Query { return api.Query{Nodes: nodes} }
func bound(op, n, d int) api.Bound    { return api.Bound{Op: op, N: n, D: d} }
func ask(f int, lo, hi api.Bound) api.QNode {
	return api.QNode{Kind: api.Feature, Feature: f, Lo: lo, Hi: hi}
}
func joined(kind int, l ...[]api.QNode) []api.QNode {
	return slices.Concat(append([][]api.QNode{{node(kind, len(l))}}, l...)...)
}

// extent is one of so many px.
func extent(kind, w, h int) api.Extent {
	return api.Extent{Type: kind, W: w * api.Unit, H: h * api.Unit}
}

// The chapter's words, one by one.

// truthOf is the truth that a number counts as.
func truthOf(a int) int {
	if a == 0 || a == 1 {
		return a
	}
	return 2
}

// notOf is Not by the chapter's words.
func notOf(a int) int {
	return []int{1, 0, 2}[truthOf(a)]
}

// joinOf is And of some, if kind is And, else Or.
func joinOf(kind int, l ...int) int {
	end, all := 0, 1
	if kind == api.Or {
		end, all = 1, 0
	}
	known := true
	for _, a := range l {
		if a == end {
			return end
		}
		known = known && a == all
	}
	if known {
		return all
	}
	return 2
}

// TestTruths: P14.1.
func TestTruths(t *testing.T) {
	few := []int{least, least + 1, -2, -1, 0, 1, 2, 3, 4, 1 << 32, 1<<32 + 1, most - 1, most}
	for _, a := range few {
		if got := truth.Not(a); got != notOf(a) {
			t.Errorf("not %d: %d", a, got)
		}
		for _, b := range few {
			if got, want := truth.And(a, b), joinOf(api.And, a, b); got != want {
				t.Errorf("%d and %d: %d, not %d", a, b, got, want)
			}
			if got, want := truth.Or(a, b), joinOf(api.Or, a, b); got != want {
				t.Errorf("%d or %d: %d, not %d", a, b, got, want)
			}
		}
	}
	// One by one.
	for _, c := range [][4]int{{0, 0, 0, 0}, {0, 1, 0, 1}, {0, 2, 0, 2}, {1, 0, 0, 1}, {1, 1, 1, 1}, {1, 2, 2, 1}, {2, 0, 0, 2}, {2, 1, 2, 1}, {2, 2, 2, 2}, {3, 0, 0, 2}, {1, -1, 2, 1}, {7, 9, 2, 2}} {
		if and, or := truth.And(c[0], c[1]), truth.Or(c[0], c[1]); and != c[2] || or != c[3] {
			t.Errorf("%d, %d: %d, %d", c[0], c[1], and, or)
		}
	}
	if truth.Not(0) != 1 || truth.Not(1) != 0 || truth.Not(2) != 2 || truth.Not(3) != 2 || truth.Not(-1) != 2 {
		t.Error("not")
	}
}

// TestTurned: P14.3 of truths.
func TestTurned(t *testing.T) {
	for a := -1; a <= 4; a++ {
		for b := -1; b <= 4; b++ {
			if truth.Not(truth.And(a, b)) != truth.Or(truth.Not(a), truth.Not(b)) || truth.Not(truth.Or(a, b)) != truth.And(truth.Not(a), truth.Not(b)) {
				t.Errorf("%d, %d", a, b)
			}
		}
	}
}

// TestExamples: the chapter's own.
func TestExamples(t *testing.T) {
	for s, want := range map[string]int{"(width > 300px)": api.True, "(aspect-ratio: 4/3)": api.True, "(orientation: portrait)": api.False} {
		if got := truth.Eval(asked(t, s), extent(api.SizeBox, 400, 300)); got != want {
			t.Errorf("%q: %d", s, got)
		}
	}
	for s, want := range map[string]int{"(height)": api.Unknown, "(height) or (width)": api.True} {
		if got := truth.Eval(asked(t, s), extent(api.InlineBox, 400, 300)); got != want {
			t.Errorf("%q: %d", s, got)
		}
	}
}

// TestTexts: P14.2 of texts.
func TestTexts(t *testing.T) {
	for s, want := range map[string][2]int{
		// Of a SizeBox, and of an InlineBox.
		"(width: 400px)": {1, 1}, "(width = 400px)": {1, 1}, "(width < 400px)": {0, 0}, "(width <= 400px)": {1, 1}, "(width >= 400px)": {1, 1}, "(width > 400px)": {0, 0}, "(width > 399.99px)": {1, 1}, "(min-width: 400px)": {1, 1}, "(max-width: 399px)": {0, 0}, "(400px < width)": {0, 0}, "(400px <= width)": {1, 1}, "(500px > width)": {1, 1},
		"(inline-size: 400px)": {1, 1}, "(inline-size)": {1, 1}, "(inline-size > 1000px)": {0, 0}, "(height: 300px)": {1, 2}, "(height > 300px)": {0, 2}, "(block-size: 300px)": {1, 2}, "(block-size < 300px)": {0, 2}, "(height)": {1, 2},
		"(300px < width < 500px)": {1, 1}, "(400px < width < 500px)": {0, 0}, "(300px < width < 400px)": {0, 0}, "(400px <= width <= 400px)": {1, 1}, "(500px > width >= 400px)": {1, 1}, "(400px > width > 300px)": {0, 0}, "(200px < height <= 300px)": {1, 2},
		"(aspect-ratio > 1)": {1, 2}, "(aspect-ratio >= 8/6)": {1, 2}, "(aspect-ratio < 4/3)": {0, 2}, "(aspect-ratio > 1.333)": {1, 2}, "(aspect-ratio < 1.334)": {1, 2}, "(1 < aspect-ratio < 16/9)": {1, 2}, "(16/9 > aspect-ratio > 4/3)": {0, 2}, "(aspect-ratio)": {1, 2},
		"(orientation)": {1, 2}, "(orientation: landscape)": {1, 2}, "(orientation: portrait)": {0, 2},
		"not (width)": {0, 0}, "not (height)": {0, 2}, "(width) and (height)": {1, 2}, "(width: 0) and (height)": {0, 0}, "(height) and (width: 0)": {0, 0}, "(width) or (height)": {1, 1}, "(width: 0) or (height)": {1, 2}, "(height) or (width: 0)": {1, 2}, "not ((width: 0) or (height))": {0, 2},
		"(width) and (width) and (width: 0)": {0, 0}, "(width: 0) or (width: 0) or (width)": {1, 1}, "(width: 0) or (width: 0)": {0, 0}, "(height) and (orientation) and (width)": {1, 2}, "((width) or (height)) and (not (width: 1px))": {1, 1}, "(not (not (height))) or (not (width))": {1, 2},
		// The name is asked for elsewhere.
		"card (width)": {1, 1}, "card (height: 1px)": {0, 2},
	} {
		q := asked(t, s)
		for i, e := range []api.Extent{extent(api.SizeBox, 400, 300), extent(api.InlineBox, 400, 300), extent(api.Normal, 400, 300)} {
			// Of no container nothing is known.
			want := append(want[:], 2)[i]
			e.Name = "box"
			if got := truth.Eval(q, e); got != want {
				t.Errorf("%q of type %d: %d, not %d", s, e.Type, got, want)
			}
		}
	}
}

// TestWrong: P14.2: of what is no right query nothing is known.
func TestWrong(t *testing.T) {
	var none api.Bound
	width := ask(api.Width, none, none)
	for _, q := range []api.Query{
		{}, {Nodes: []api.QNode{}}, {Name: "a"}, {Name: "not", Nodes: []api.QNode{width}}, {Name: "1", Nodes: []api.QNode{width}}, of(width, width), of(node(api.And, 1), width), of(node(api.And, 2), width), of(node(api.Or, 2), width, width, width), of(node(api.Not, 1)), of(node(api.Not, 2), width), of(node(5, 0)), of(node(0, 0)), of(node(api.Feature, 1)),
		of(ask(0, none, none)), of(ask(7, none, none)), of(ask(api.Width, bound(api.Less, 0, 0), none)), of(ask(api.Width, none, bound(6, 0, 0))), of(ask(api.Width, none, bound(0, 5, 0))), of(ask(api.Width, none, bound(api.Greater, 0, 1))), of(ask(api.Width, none, bound(api.Less, api.MaxLen+1, 0))), of(ask(api.Height, bound(api.Less, 0, 0), bound(api.Greater, 0, 0))),
		of(ask(api.AspectRatio, none, bound(api.Greater, 1, 0))), of(ask(api.AspectRatio, none, bound(api.Greater, 0, 1))), of(ask(api.Orientation, none, bound(api.Less, 1, 0))), of(ask(api.Orientation, none, bound(api.Equals, 3, 0))), of(ask(api.Orientation, bound(api.Equals, 1, 0), bound(api.Equals, 1, 0))),
		of(append([]api.QNode{node(api.Or, 32)}, slices.Repeat([]api.QNode{width}, 32)...)...), of(node(api.Or, 2), width, ask(api.Width, none, bound(9, 0, 0))),
	} {
		if got := truth.Eval(q, extent(api.SizeBox, 400, 300)); got != api.Unknown {
			t.Errorf("%v: %d", q, got)
		}
	}
	for _, q := range []api.Query{of(width), of(append([]api.QNode{node(api.Or, 31)}, slices.Repeat([]api.QNode{width}, 31)...)...)} {
		if got := truth.Eval(q, extent(api.SizeBox, 400, 300)); got != api.True {
			t.Errorf("%v: %d", q, got)
		}
	}
}

// evalOf is what a node of a right query says, by the chapter's words, and the place behind it.
func evalOf(l []api.QNode, i int, e api.Extent) (int, int) {
	n := l[i]
	if n.Kind == api.Feature {
		return featureOf(n, e), i + 1
	}
	var all []int
	end := i + 1
	for range n.Count {
		var a int
		a, end = evalOf(l, end, e)
		all = append(all, a)
	}
	if n.Kind == api.Not {
		return notOf(all[0]), end
	}
	return joinOf(n.Kind, all...), end
}

// TestReckoned: P14.2 of many queries and extents.
func TestReckoned(t *testing.T) {
	c := chance(3)
	var counts [3]int
	for range 20000 {
		l := someNodes(&c, oneOf(&c, 1, 2, 5, api.MaxQuery))
		q := api.Query{Name: oneOf(&c, "", "a"), Nodes: l}
		e := someExtent(&c)
		want, _ := evalOf(l, 0, e)
		got := truth.Eval(q, e)
		if got != want {
			t.Fatalf("%v of %v: %d, not %d", q, e, got, want)
		}
		counts[got]++
	}
	for a, n := range counts {
		if n < 2000 {
			t.Errorf("%d is answered %d times", a, n)
		}
	}
}

// TestTurnedQueries: P14.3 of queries.
func TestTurnedQueries(t *testing.T) {
	c := chance(5)
	for range 5000 {
		a, b, e := someNodes(&c, 5), someNodes(&c, 5), someExtent(&c)
		not := func(l []api.QNode) []api.QNode { return joined(api.Not, l) }
		for _, k := range [][2]int{{api.And, api.Or}, {api.Or, api.And}} {
			one, other := of(not(joined(k[0], a, b))...), of(joined(k[1], not(a), not(b))...)
			if x, y := truth.Eval(one, e), truth.Eval(other, e); x != y {
				t.Fatalf("%v is %d, %v is %d of %v", one, x, other, y, e)
			}
		}
	}
}

// TestKnownStays: P14.4.
func TestKnownStays(t *testing.T) {
	c := chance(7)
	known := 0
	for range 10000 {
		q, e := of(someNodes(&c, oneOf(&c, 1, 3, 9))...), someExtent(&c)
		e.Type = api.InlineBox
		was := truth.Eval(q, e)
		e.Type = api.SizeBox
		for _, h := range []int{e.H, least, -64, 0, 1, e.W, most} {
			e.H = h
			got := truth.Eval(q, e)
			if got == api.Unknown || was != api.Unknown && got != was {
				t.Fatalf("%v of %v: %d, it was %d", q, e, got, was)
			}
		}
		if was != api.Unknown {
			known++
		}
	}
	if known < 1000 {
		t.Errorf("%d are known", known)
	}
}

// TestSilent: what is handed in stays as it is.
func TestSilent(t *testing.T) {
	c := chance(9)
	for range 500 {
		q := of(someNodes(&c, 9)...)
		was := of(slices.Clone(q.Nodes)...)
		truth.Eval(q, someExtent(&c))
		if !query.Same(q, was) {
			t.Fatalf("%v was %v", q, was)
		}
	}
}

// TestAnything: P1: every call ends and none panics, whatever it is given; nothing but truths is answered.
func TestAnything(t *testing.T) {
	c := chance(11)
	odd := []int{least, least + 1, -1, 0, 1, 2, 3, 4, 5, 6, 7, 1 << 30, 1 << 32, most}
	for range 20000 {
		var l []api.QNode
		for range c.below(6) {
			some := func() api.Bound { return bound(oneOf(&c, odd...), oneOf(&c, odd...), oneOf(&c, 0, oneOf(&c, odd...))) }
			n := api.QNode{Kind: oneOf(&c, 1, 2, 3, 4, 4, 4, oneOf(&c, odd...)), Count: oneOf(&c, 0, 1, 2, oneOf(&c, odd...)), Feature: oneOf(&c, odd...)}
			if c.below(2) == 0 {
				n.Lo = some()
			}
			if c.below(2) == 0 {
				n.Hi = some()
			}
			l = append(l, n)
		}
		q := api.Query{Name: oneOf(&c, "", "a", "not", "\x00"), Nodes: l}
		e := api.Extent{Type: oneOf(&c, odd...), W: oneOf(&c, odd...), H: oneOf(&c, odd...)}
		got := truth.Eval(q, e)
		if got < api.False || got > api.Unknown || !query.Right(q) && got != api.Unknown {
			t.Fatalf("%v of %v: %d", q, e, got)
		}
	}
	for _, kind := range []int{api.And, api.Or, api.Not, api.Feature} {
		truth.Eval(of(slices.Repeat([]api.QNode{node(kind, 1)}, 1<<16)...), extent(api.SizeBox, 1, 1))
	}
	deep := append(slices.Repeat([]api.QNode{node(api.Not, 1)}, 31), ask(api.Width, api.Bound{}, api.Bound{}))
	if got := truth.Eval(of(deep...), extent(api.SizeBox, 1, 1)); got != api.False {
		t.Errorf("31 times not: %d", got)
	}
}
