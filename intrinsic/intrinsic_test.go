package intrinsic_test

import (
	"math"
	"slices"
	"testing"

	"wainscot/api"
	"wainscot/axis"
	"wainscot/intrinsic"
	"wainscot/markup"
	"wainscot/sizing"
	"wainscot/style"
)

const (
	lowest  = math.MinInt
	highest = math.MaxInt
	end     = api.MaxLen
)

type edit = func(s *api.Style)

// page is a text's tree.
func page(t *testing.T, s string) []api.Node {
	t.Helper()
	l, at, e := markup.Parse(s)
	if e != api.OK {
		t.Fatalf("%q: %d at %d", s, e, at)
	}
	return l
}

// plain is the style of nothing with the em 1000, with what is told done to it.
func plain(edits ...edit) api.Style {
	s := style.Start()
	s.Font = 1000
	for _, e := range edits {
		e(&s)
	}
	return s
}

// on is an edit of one node's style.
type on struct {
	node int
	do   []edit
}

// at edits a node's style.
func at(node int, do ...edit) on { return on{node, do} }

// styles are as many plain ones, with what is told done to them.
func styles(n int, edits ...on) []api.Style {
	s := make([]api.Style, n)
	for i := range s {
		s[i] = plain()
	}
	for _, e := range edits {
		for _, do := range e.do {
			do(&s[e.node])
		}
	}
	return s
}

// Sizes.

func fixed(n int) api.Size { return api.Size{Kind: api.Fixed, N: n} }
func share(n int) api.Size { return api.Size{Kind: api.Share, N: n} }
func kind(n int) api.Size  { return api.Size{Kind: n} }

// What a style has.

func display(n int) edit      { return func(s *api.Style) { s.Display = n } }
func holds(n int) edit        { return func(s *api.Style) { s.Type = n } }
func dir(n int) edit          { return func(s *api.Style) { s.Dir = n } }
func wrap(n int) edit         { return func(s *api.Style) { s.Wrap = n } }
func gap(z api.Size) edit     { return func(s *api.Style) { s.ColGap = z } }
func font(n int) edit         { return func(s *api.Style) { s.Font = n } }
func wide(z api.Size) edit    { return func(s *api.Style) { s.W = z } }
func high(z api.Size) edit    { return func(s *api.Style) { s.H = z } }
func minWide(z api.Size) edit { return func(s *api.Style) { s.MinW = z } }
func maxWide(z api.Size) edit { return func(s *api.Style) { s.MaxW = z } }
func minHigh(z api.Size) edit { return func(s *api.Style) { s.MinH = z } }
func maxHigh(z api.Size) edit { return func(s *api.Style) { s.MaxH = z } }
func ratio(n, d int) edit     { return func(s *api.Style) { s.RatioN, s.RatioD = n, d } }
func border(s *api.Style)     { s.Border = true }
func flex(s *api.Style)       { s.Display = api.Flex }
func hidden(s *api.Style)     { s.Display = api.Hidden }

// margins and pads are the left and the right one.

func margins(left, right api.Size) edit {
	return func(s *api.Style) { s.Margin[api.Left], s.Margin[api.Right] = left, right }
}

func pads(left, right api.Size) edit {
	return func(s *api.Style) { s.Pad[api.Left], s.Pad[api.Right] = left, right }
}

func edges(top, right, bottom, left int) edit {
	return func(s *api.Style) { s.Edge = [4]int{top, right, bottom, left} }
}

// TestExamples: the chapter's own.
func TestExamples(t *testing.T) {
	l := page(t, `a{"ab cd"}`)
	pad := pads(fixed(100), fixed(0))
	for i, c := range []struct {
		s         []api.Style
		low, high int
	}{
		{styles(2), 1000, 2250}, {styles(2, at(0, pad)), 1100, 2350}, {styles(2, at(0, pad, holds(api.InlineBox))), 100, 100},
	} {
		if low, high := intrinsic.Outer(l, c.s, 0); low != c.low || high != c.high {
			t.Errorf("%d: %d, %d, not %d, %d", i, low, high, c.low, c.high)
		}
	}
}

// TestFlows: P23.1.
func TestFlows(t *testing.T) {
	l := page(t, `a{"" " " "x" "  x  y " b c d e f}`)
	s := styles(9, at(2, hidden), at(3, hidden), at(4, hidden), at(6, flex), at(7, hidden), at(8, display(3)))
	want := []bool{true, false, false, true, true, true, true, false, true, true}
	for i, flows := range want {
		if got := intrinsic.Flows(l, s, i); got != flows {
			t.Errorf("%d: %t", i, got)
		}
	}
	for _, i := range []int{-1, 10, lowest, highest, 1<<32 + 3} {
		if intrinsic.Flows(l, s, i) || intrinsic.Flows(nil, s, i) {
			t.Errorf("%d stands in the flow", i)
		}
	}
	// A node alone tells, not what is above it, beneath it, or beyond the list.
	s[0].Display = api.Hidden
	if intrinsic.Flows(l, s, 0) || !intrinsic.Flows(l, s, 3) || !intrinsic.Flows(l, s, 5) || intrinsic.Flows(nil, s, 0) || intrinsic.Flows(l[:7], s, 8) {
		t.Error("not as said")
	}
	// Nothing but a tag and words counts, right or not; a word is bytes that are no blanks.
	odd := []api.Node{{Text: "x"}, {Text: " \t "}, {Text: " \x00"}, {ID: "i", Classes: []string{"c"}}, {Tag: "1", Text: "  "}, {Tag: "1", Text: "x"}}
	for i, want := range []bool{true, true, true, false, true, true} {
		if got := intrinsic.Flows(odd, nil, i); got != want {
			t.Errorf("%d: %t", i, got)
		}
	}
	for n, want := range map[int]bool{api.Block: true, api.Flex: true, api.Hidden: false, 3: true, -1: true, lowest: true, highest: true, 1<<32 + 2: true} {
		if got := intrinsic.Flows(l[:1], styles(1, at(0, display(n))), 0); got != want {
			t.Errorf("Display %d: %t", n, got)
		}
	}
}

// TestKids: P23.1.
func TestKids(t *testing.T) {
	l := page(t, `a{b{"x" c{d}} "" e " " "y" f{g} h}`)
	// a 0, b 1, "x" 2, c 3, d 4, "" 5, e 6, " " 7, "y" 8, f 9, g 10, h 11
	s := styles(12, at(6, hidden), at(9, flex), at(8, hidden))
	for i, want := range [][]int{{1, 8, 9, 11}, {2, 3}, nil, {4}, nil, nil, nil, nil, nil, {10}, nil, nil} {
		if got := intrinsic.Kids(l, s, i); !slices.Equal(got, want) {
			t.Errorf("%d: %v, not %v", i, got, want)
		}
	}
	for _, i := range []int{-1, 12, lowest, highest, 1 << 32} {
		if got := intrinsic.Kids(l, s, i); len(got) != 0 {
			t.Errorf("%d: %v", i, got)
		}
	}
	// Whether the node itself stands in the flow does not count.
	s[0].Display = api.Hidden
	if got := intrinsic.Kids(l, s, 0); !slices.Equal(got, []int{1, 8, 9, 11}) {
		t.Errorf("%v", got)
	}
	// Of a list that is no tree: words have kids, and kids stand behind what is not beneath their parent.
	odd := []api.Node{{Parent: -1, Text: "x"}, {Parent: 0, Tag: "a"}, {Parent: 0, Text: "y"}, {Parent: 1, Text: "z"}, {Parent: 0, Tag: "b"}, {Parent: 5, Tag: "c"}, {Parent: 9, Tag: "d"}, {Parent: 0, Text: " "}}
	for i, want := range [][]int{{1, 2, 4}, {3}, nil, nil, nil, nil, nil, nil} {
		if got := intrinsic.Kids(odd, nil, i); !slices.Equal(got, want) {
			t.Errorf("%d: %v, not %v", i, got, want)
		}
	}
}

// TestBare: P23.1.
func TestBare(t *testing.T) {
	all := []int{api.Auto, api.Fixed, api.Share, api.MinCont, api.MaxCont, api.FitCont, api.None, 7, -1, lowest, highest}
	for _, n := range all {
		z := api.Size{Kind: n, N: 77}
		s := api.Style{Display: 1, Border: true, W: z, H: z, MinW: z, MinH: z, MaxW: z, MaxH: z, Margin: [4]api.Size{z, z, z, z}, Pad: [4]api.Size{z, z, z, z}, Edge: [4]int{1, 2, 3, 4}, RatioN: 5, RatioD: 6, Dir: 7, Wrap: 8, Grow: 9, Shrink: 10, Basis: z, Order: 11, Justify: 12, Items: 13, Self: 14, Content: 15, RowGap: z, ColGap: z, Type: 16, Name: "x", Font: 17, Line: 18}
		want := s
		if n == api.Share {
			zero := fixed(0)
			want.W, want.MinW, want.MaxW = kind(api.Auto), kind(api.Auto), kind(api.None)
			want.Margin, want.Pad = [4]api.Size{zero, zero, zero, zero}, [4]api.Size{zero, zero, zero, zero}
		}
		if n == api.FitCont {
			want.W, want.MinW, want.MaxW = kind(api.Auto), kind(api.MinCont), kind(api.MaxCont)
		}
		if got := intrinsic.Bare(s); got != want {
			t.Errorf("%d: %+v, not %+v", n, got, want)
		}
	}
	// Each one by itself.
	mixed := plain(wide(share(1)), minWide(kind(api.FitCont)), maxWide(fixed(3)), margins(share(4), fixed(5)), pads(fixed(6), share(7)))
	want := plain(minWide(kind(api.MinCont)), maxWide(fixed(3)), margins(fixed(0), fixed(5)), pads(fixed(6), fixed(0)))
	if got := intrinsic.Bare(mixed); got != want {
		t.Errorf("%+v, not %+v", got, want)
	}
}

// told is a page with what is asked for of one of its nodes.
type told struct {
	text      string
	edits     []on
	node      int
	low, high int
}

// check fails if a call does not answer as asked for.
func check(t *testing.T, call func(l []api.Node, s []api.Style, i int) (int, int), l []told) {
	t.Helper()
	for i, c := range l {
		nodes := page(t, c.text)
		if low, high := call(nodes, styles(len(nodes), c.edits...), c.node); low != c.low || high != c.high {
			t.Errorf("%d: %s, %d: %d, %d, not %d, %d", i, c.text, c.node, low, high, c.low, c.high)
		}
	}
}

// TestOwn: P23.2: the widths of an element's content.
func TestOwn(t *testing.T) {
	const three = `a{"ab cd" b{"a"} c}`
	do := func(edits ...edit) []on { return []on{at(0, edits...)} }
	check(t, intrinsic.Own, []told{
		// Of a block the greatest ones; of no kids 0.
		{three, nil, 0, 1000, 2250}, {three, nil, 2, 500, 500}, {three, nil, 4, 0, 0}, {`a{"" " "}`, nil, 0, 0, 0}, {`a{"ab cd" "xx xxxx"}`, nil, 0, 2000, 3250}, {`a{"abc" "a b c"}`, nil, 0, 1500, 2000}, {`a{b{c{"ab cd"}}}`, nil, 0, 1000, 2250},
		// A Display that is no other one is a block's.
		{three, do(display(3), gap(fixed(10))), 0, 1000, 2250}, {three, do(display(-1)), 0, 1000, 2250}, {three, do(hidden), 0, 1000, 2250}, {three, do(gap(fixed(10)), wrap(1), dir(1)), 0, 1000, 2250},
		// Of a row their sums, and a gap between each two.
		{three, do(flex), 0, 1500, 2750}, {three, do(flex, dir(axis.RowBack)), 0, 1500, 2750}, {three, do(flex, gap(fixed(10))), 0, 1520, 2770}, {three, do(flex, dir(axis.RowBack), gap(fixed(10))), 0, 1520, 2770}, {`a{"ab"}`, do(flex, gap(fixed(10))), 0, 1000, 1000}, {`a`, do(flex, gap(fixed(10))), 0, 0, 0}, {`a{"" "ab" " " "cd" ""}`, do(flex, gap(fixed(10))), 0, 2010, 2010},
		// Of one with lines the least is the greatest one.
		{three, do(flex, wrap(1), gap(fixed(10))), 0, 1000, 2770}, {three, do(flex, wrap(2)), 0, 1000, 2750}, {three, do(flex, wrap(-1)), 0, 1000, 2750}, {three, do(flex, wrap(3), dir(axis.RowBack)), 0, 1000, 2750}, {three, do(flex, wrap(highest)), 0, 1000, 2750}, {`a`, do(flex, wrap(1), gap(fixed(10))), 0, 0, 0},
		// Of a column the greatest ones; a number that is no way is no Row here.
		{three, do(flex, dir(axis.Column), gap(fixed(10))), 0, 1000, 2250}, {three, do(flex, dir(axis.ColumnBack), gap(fixed(10)), wrap(1)), 0, 1000, 2250}, {three, do(flex, dir(4)), 0, 1000, 2250}, {three, do(flex, dir(-1)), 0, 1000, 2250}, {three, do(flex, dir(lowest)), 0, 1000, 2250}, {three, do(flex, dir(1<<32)), 0, 1000, 2250},
		// A gap is a Fixed one, at least 0; RowGap does not count.
		{three, do(flex, gap(share(100000))), 0, 1500, 2750}, {three, do(flex, gap(api.Size{Kind: api.Auto, N: 10})), 0, 1500, 2750}, {three, do(flex, gap(api.Size{Kind: 7, N: 10})), 0, 1500, 2750}, {three, do(flex, gap(fixed(-10))), 0, 1500, 2750}, {three, do(flex, gap(fixed(lowest))), 0, 1500, 2750}, {three, do(flex, func(s *api.Style) { s.RowGap = fixed(10) }), 0, 1500, 2750},
		// What holds has none, of whatever Display; what is around the content does not count.
		{three, do(holds(api.InlineBox)), 0, 0, 0}, {three, do(holds(api.SizeBox), flex), 0, 0, 0}, {three, do(holds(3)), 0, 1000, 2250}, {three, do(holds(-1)), 0, 1000, 2250}, {three, do(pads(fixed(9), fixed(9)), edges(9, 9, 9, 9), margins(fixed(9), fixed(9)), wide(fixed(9)), minWide(fixed(9999))), 0, 1000, 2250},
		// What holds beneath has its frame alone; what is hidden has nothing, neither a gap.
		{three, []on{at(2, holds(api.SizeBox), pads(fixed(7), fixed(0))), at(0, flex)}, 0, 1007, 2257}, {three, []on{at(2, hidden), at(0, flex, gap(fixed(10)))}, 0, 1010, 2260}, {`a{b{c{"abcd"} "ab"}}`, []on{at(2, hidden)}, 0, 1000, 1000}, {`a{b{c{d{"abcd"}} "ab"}}`, []on{at(2, holds(api.InlineBox))}, 0, 1000, 1000},
		// Of words there are none.
		{three, nil, 1, 0, 0}, {three, nil, 3, 0, 0},
		// Kids are as wide as they are from outside.
		{three, []on{at(2, margins(fixed(30), fixed(-10)), pads(fixed(4), fixed(0)), wide(fixed(5000))), at(0, flex, gap(fixed(1)))}, 0, 6026, 7276}, {three, []on{at(2, margins(fixed(-9000), fixed(0))), at(0, flex)}, 0, 1000, 2250},
		// Sums stop at an end.
		{three, do(flex, gap(fixed(highest))), 0, end, end}, {three, do(flex, wrap(1), gap(fixed(end-1))), 0, 1000, end}, {`a{b c d}`, []on{at(0, flex), at(1, wide(fixed(end-1))), at(2, wide(fixed(5)))}, 0, end, end},
	})
	l := page(t, three)
	for _, i := range []int{-1, 5, lowest, highest, 1 << 32} {
		if low, high := intrinsic.Own(l, styles(9), i); low != 0 || high != 0 {
			t.Errorf("%d: %d, %d", i, low, high)
		}
	}
}

// TestOuterWords: P23.2: the outer widths of words.
func TestOuterWords(t *testing.T) {
	check(t, intrinsic.Outer, []told{
		{`a{"ab cd"}`, nil, 1, 1000, 2250}, {`a{"ab cd"}`, []on{at(0, font(2000))}, 1, 2000, 4500}, {`a{"ab cd"}`, []on{at(0, font(0))}, 1, 0, 0}, {`a{"ab cd"}`, []on{at(0, font(-1000))}, 1, 0, 0}, {`a{"ab cd"}`, []on{at(0, font(lowest))}, 1, 0, 0}, {`a{"ab cd"}`, []on{at(0, font(highest))}, 1, end, end}, {`a{"a b"}`, []on{at(0, font(highest))}, 1, end / 2, end},
		// The em is their parent's, nobody else's; of their own style nothing counts.
		{`a{b{"ab cd"}}`, []on{at(0, font(2000)), at(2, font(3000))}, 2, 1000, 2250}, {`a{"ab cd"}`, []on{at(1, hidden, wide(fixed(7)), minWide(fixed(9999)), margins(fixed(5), fixed(5)), pads(fixed(5), fixed(5)))}, 1, 1000, 2250},
		// A parent that holds, or is hidden, has an em as well.
		{`a{"ab cd"}`, []on{at(0, hidden)}, 1, 1000, 2250}, {`a{"ab cd"}`, []on{at(0, holds(api.SizeBox))}, 1, 1000, 2250},
		{`a{"" " "}`, nil, 1, 0, 0}, {`a{"" " "}`, nil, 2, 0, 0},
	})
	// Without a parent, or beyond the styles, the em is 0.
	for _, up := range []int{-1, 1, 2, lowest, highest} {
		l := []api.Node{{Parent: -1, Tag: "a"}, {Parent: up, Text: "ab cd"}}
		if low, high := intrinsic.Outer(l, styles(2), 1); low != 0 || high != 0 {
			t.Errorf("of parent %d: %d, %d", up, low, high)
		}
	}
	l := []api.Node{{Parent: -1, Text: "x"}, {Parent: 0, Text: "ab cd"}, {Parent: 1, Text: "abc"}}
	for i, want := range [][2]int{{0, 0}, {1000, 2250}, {0, 0}} {
		if low, high := intrinsic.Outer(l, styles(1), i); low != want[0] || high != want[1] {
			t.Errorf("%d: %d, %d, not %v", i, low, high, want)
		}
	}
}

// TestOuter: P23.2: the outer widths of an element whose content is 1000 and 2250 wide.
func TestOuter(t *testing.T) {
	c := func(low, high int, edits ...edit) told {
		return told{`a{b{"ab cd"}}`, []on{at(1, edits...)}, 1, low, high}
	}
	frame := func(s *api.Style) {
		pads(fixed(10), fixed(20))(s)
		edges(5, 30, 7, 40)(s)
	}
	check(t, intrinsic.Outer, []told{
		c(1000, 2250), c(1100, 2350, frame), c(1100, 2350, frame, border), c(1100, 2350, frame, margins(kind(api.Auto), kind(api.Auto))),
		// What is around hangs on no room.
		c(1030, 2280, pads(fixed(30), share(50000))), c(1000, 2250, pads(fixed(-30), share(-50000))), c(1009, 2259, edges(0, 9, 0, -9)),
		// Flex, hidden and other ones likewise.
		c(1100, 2350, frame, flex), c(1100, 2350, frame, hidden), c(1100, 2350, frame, display(7)), c(100, 100, frame, holds(api.InlineBox)), c(100, 100, frame, holds(api.SizeBox), flex),
		// What W says, if it hangs on no room.
		c(700, 700, wide(fixed(700))), c(800, 800, frame, wide(fixed(700))), c(700, 700, frame, wide(fixed(700)), border), c(100, 100, frame, wide(fixed(70)), border), c(0, 0, wide(fixed(-5))), c(end, end, wide(fixed(highest))), c(1100, 1100, frame, wide(kind(api.MinCont))), c(2350, 2350, frame, wide(kind(api.MaxCont))), c(1100, 2350, frame, wide(kind(api.FitCont))), c(1100, 2350, frame, wide(share(50000))), c(1100, 2350, frame, wide(share(-50000))), c(1000, 2250, wide(kind(api.None))), c(1000, 2250, wide(kind(7))), c(800, 800, frame, wide(fixed(700)), holds(api.SizeBox)), c(100, 100, frame, wide(kind(api.MaxCont)), holds(api.SizeBox)),
		// Else a height that is given, turned, if the ratio counts.
		c(2000, 2000, high(fixed(1000)), ratio(2000, 1000)), c(333, 333, high(fixed(1000)), ratio(1, 3)), c(2100, 2100, frame, high(fixed(1000)), ratio(2000, 1000)), c(1976, 1976, frame, high(fixed(988)), ratio(2000, 1000), border), c(700, 700, wide(fixed(700)), high(fixed(1000)), ratio(2000, 1000)), c(1000, 1000, wide(kind(api.MinCont)), high(fixed(1000)), ratio(2000, 1000)), c(2000, 2000, wide(share(50000)), high(fixed(1000)), ratio(2000, 1000)), c(2000, 2000, wide(kind(api.FitCont)), high(fixed(1000)), ratio(2000, 1000)),
		c(3000, 3000, high(fixed(1000)), minHigh(fixed(1500)), ratio(2000, 1000)), c(1000, 1000, high(fixed(1000)), maxHigh(fixed(500)), ratio(2000, 1000)), c(2000, 2000, holds(api.SizeBox), high(fixed(1000)), ratio(2000, 1000)),
		// A share of a height that is not known gives none, nor does what is kept; a ratio counts, if both are above 0.
		c(1000, 2250, high(share(50000)), ratio(2000, 1000)), c(1000, 2250, minHigh(fixed(1000)), maxHigh(fixed(1000)), ratio(2000, 1000)), c(1000, 2250, ratio(2000, 1000)), c(1000, 2250, high(fixed(1000))), c(1000, 2250, high(fixed(1000)), ratio(0, 1000)), c(1000, 2250, high(fixed(1000)), ratio(1000, 0)), c(1000, 2250, high(fixed(1000)), ratio(-1, -1)), c(1000, 2250, high(kind(api.MinCont)), ratio(2000, 1000)), c(1000, 2250, high(kind(api.Auto)), ratio(2000, 1000)),
		// Kept across.
		c(1200, 2250, minWide(fixed(1200))), c(3000, 3000, minWide(fixed(3000))), c(1000, 1500, maxWide(fixed(1500))), c(500, 500, maxWide(fixed(500))), c(900, 900, minWide(fixed(900)), maxWide(fixed(500))), c(1300, 2350, frame, minWide(fixed(1200))), c(1200, 2350, frame, minWide(fixed(1200)), border), c(2250, 2250, minWide(kind(api.MaxCont))), c(1000, 1000, maxWide(kind(api.MinCont))), c(1000, 2250, maxWide(kind(api.MaxCont))), c(1000, 1000, minWide(kind(api.FitCont)), wide(fixed(5))), c(2250, 2250, maxWide(kind(api.FitCont)), wide(fixed(9999))), c(1000, 2250, minWide(share(100000))), c(1000, 2250, maxWide(share(100000))), c(1000, 2250, maxWide(share(-100000))), c(1000, 2250, minWide(kind(api.None)), maxWide(kind(api.Auto))),
		c(1200, 1200, wide(fixed(700)), minWide(fixed(1200))), c(500, 500, wide(fixed(700)), maxWide(fixed(500))), c(1000, 1000, wide(fixed(700)), minWide(kind(api.MinCont))), c(1500, 1500, high(fixed(1000)), ratio(2000, 1000), maxWide(fixed(1500))), c(2500, 2500, high(fixed(1000)), ratio(2000, 1000), minWide(fixed(2500))), c(100, 100, frame, maxWide(fixed(0)), border), c(50, 50, holds(api.SizeBox), minWide(fixed(50))),
		// Then both margins.
		c(1030, 2280, margins(fixed(10), fixed(20))), c(990, 2240, margins(fixed(10), fixed(-20))), c(0, 1050, margins(fixed(-600), fixed(-600))), c(0, 0, margins(fixed(-9000), fixed(0))), c(1010, 2260, margins(fixed(10), share(50000))), c(1010, 2260, margins(share(-50000), fixed(10))), c(1010, 2260, margins(kind(api.Auto), fixed(10))), c(730, 730, wide(fixed(700)), margins(fixed(10), fixed(20))), c(1230, 2280, minWide(fixed(1200)), margins(fixed(10), fixed(20))),
		// The left one first, each sum held.
		c(end-5, end-5, margins(fixed(highest), fixed(-5))), c(995, 2245, margins(fixed(-5), fixed(0))), c(end, end, margins(fixed(-5), fixed(highest))), c(0, 0, margins(fixed(lowest), fixed(5))), c(5, 5, wide(fixed(0)), margins(fixed(-end), fixed(end)), pads(fixed(5), fixed(0))), c(0, 0, wide(fixed(end)), margins(fixed(end), fixed(-end))), c(end, end, pads(fixed(highest), fixed(highest)), edges(0, highest, 0, 0)),
	})
	// Beyond the styles an element has the zero one.
	l := page(t, `a{b{"ab cd"} c{d{"ef"}}}`)
	for i, want := range [][2]int{{1000, 2250}, {1000, 2250}, {1000, 2250}, {0, 0}, {0, 0}, {0, 0}} {
		if low, high := intrinsic.Outer(l, styles(2), i); low != want[0] || high != want[1] {
			t.Errorf("%d: %d, %d, not %v", i, low, high, want)
		}
	}
	for _, i := range []int{-1, 6, lowest, highest, 1 << 32} {
		if low, high := intrinsic.Outer(l, styles(9), i); low != 0 || high != 0 {
			t.Errorf("%d: %d, %d", i, low, high)
		}
	}
}

// TestCase: P23.3.
func TestCase(t *testing.T) {
	l := page(t, `a{b{"ab cd"} c{"ab" "a"}}`)
	frame := []edit{pads(fixed(10), share(50000)), edges(5, 30, 7, 40)}
	for i, c := range []struct {
		edits       []on
		node        int
		avail, base int
		low, high   int
	}{
		{nil, 1, 6400, 480, 1000, 2250}, {nil, 3, 6400, -1, 1000, 1000}, {nil, 0, 0, 0, 1000, 2250}, {nil, 2, 100, 200, 0, 0},
		// What is around hangs on the room here; the style is as it was.
		{[]on{at(1, frame...)}, 1, 100, -1, 1130, 2380}, {[]on{at(1, frame...)}, 1, 0, 7, 1080, 2330}, {[]on{at(1, frame...)}, 1, -100, 7, 1080, 2330}, {[]on{at(1, append(frame, holds(api.InlineBox))...)}, 1, 100, -1, 130, 130}, {[]on{at(1, wide(share(50000)), minWide(kind(api.FitCont)), maxWide(share(10000)))}, 1, 640, 480, 1000, 2250},
		// Sizes and margins are no part of them.
		{[]on{at(1, wide(fixed(7)), high(fixed(7)), ratio(1, 1), minWide(fixed(9999)), maxWide(fixed(5)), margins(fixed(50), fixed(60)), border)}, 1, 640, 480, 1000, 2250}, {[]on{at(1, hidden)}, 1, 640, 480, 1000, 2250}, {[]on{at(0, flex, gap(fixed(10)))}, 0, 640, 480, 2010, 3260},
		// Of words: what is around them, by their style.
		{[]on{at(2, frame...)}, 2, 100, -1, 130, 130},
		// Sums stop at an end.
		{[]on{at(1, pads(fixed(end-1500), fixed(0)))}, 1, 640, 480, end - 500, end}, {[]on{at(1, pads(share(highest), share(highest)))}, 1, end, 480, end, end},
	} {
		s := styles(6, c.edits...)
		want := sizing.Case{Style: s[c.node], Avail: c.avail, Base: c.base, Least: c.low, Most: c.high}
		if got := intrinsic.Case(l, s, c.node, c.avail, c.base); got != want {
			t.Errorf("%d: %+v, not %+v", i, got, want)
		}
	}
	// All numbers of a case are held.
	for n, want := range map[int]int{highest: end, end + 1: end, 1<<32 + 1: end, end: end, -1: -1, -end: -end, -end - 1: -end, lowest: -end} {
		if got := intrinsic.Case(l, nil, 1, n, 0); got != (sizing.Case{Avail: want}) {
			t.Errorf("%+v", got)
		}
		if got := intrinsic.Case(l, nil, 1, 0, n); got != (sizing.Case{Base: want}) {
			t.Errorf("%+v", got)
		}
	}
	// No node has neither a style nor a width.
	for _, i := range []int{-1, 6, 7, lowest, highest, 1 << 32} {
		if got := intrinsic.Case(l, styles(9), i, 10, 20); got != (sizing.Case{Avail: 10, Base: 20}) {
			t.Errorf("%d: %+v", i, got)
		}
	}
}
