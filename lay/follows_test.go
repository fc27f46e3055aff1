package lay_test

import (
	"reflect"
	"slices"
	"testing"

	"wainscot/api"
	"wainscot/fix"
	"wainscot/intrinsic"
	"wainscot/lay"
	"wainscot/tree"
)

// chance hands out numbers that look like chance, the same ones in every run.
type chance uint64

func (c *chance) below(n int) int {
	*c = *c*6364136223846793005 + 1442695040888963407
	return int(uint64(*c)>>33) % n
}

// oneOf is one of some.
func oneOf[T any](c *chance, l ...T) T {
	return l[c.below(len(l))]
}

// ends are numbers at which something may change.
func ends() []int {
	return []int{lowest, lowest + 1, -end - 1, -end, 1 - end, -64, -1, 0, 1, 64, end - 1, end, end + 1, 1<<32 + 1, highest}
}

// someLength is one that looks like chance.
func someLength(c *chance) int {
	return oneOf(c, 0, c.below(100), c.below(1000), -c.below(300), oneOf(c, ends()...))
}

// someSize is a size that looks like chance, an ordinary one or any.
func someSize(c *chance, wild bool) api.Size {
	if wild && c.below(3) == 0 {
		return api.Size{Kind: oneOf(c, 0, 1, 1, 2, 3, 4, 5, 6, oneOf(c, ends()...)), N: someLength(c)}
	}
	return oneOf(c, api.Size{}, fixed(c.below(400)), fixed(c.below(400)), share(c.below(130000)), share(c.below(130000)), kind(api.MinCont), kind(api.MaxCont), kind(api.FitCont), kind(api.None))
}

// someStyle is one that looks like chance.
func someStyle(c *chance, wild bool) api.Style {
	s := plain()
	s.Font, s.Line = oneOf(c, 100, 100, 0, c.below(300)), oneOf(c, 1000, 1000, 1200, c.below(2000))
	s.Display = oneOf(c, api.Block, api.Block, api.Block, api.Flex, api.Flex, api.Flex, api.Flex, api.Hidden)
	s.Border, s.Type = c.below(2) == 0, oneOf(c, 0, 0, 0, 0, 0, 1, 2)
	s.Dir, s.Wrap = oneOf(c, 0, 0, 1, 2, 2, 3), oneOf(c, 0, 0, 1, 1, 2)
	s.ColGap, s.RowGap = oneOf(c, fixed(0), fixed(c.below(40)), share(c.below(10000))), oneOf(c, fixed(0), fixed(c.below(40)), share(c.below(10000)))
	s.Grow, s.Shrink, s.Order = oneOf(c, 0, 0, 1000, c.below(3000)), oneOf(c, 1000, 1000, 0, c.below(3000)), oneOf(c, 0, 0, 0, c.below(5)-2)
	s.Justify, s.Items, s.Self, s.Content = c.below(6), oneOf(c, 0, 0, c.below(4)), oneOf(c, 0, 0, c.below(5)), oneOf(c, 0, 0, c.below(7))
	for _, z := range []*api.Size{&s.W, &s.H, &s.MinW, &s.MinH, &s.MaxW, &s.MaxH, &s.Basis} {
		if c.below(4) == 0 {
			*z = someSize(c, wild)
		}
	}
	for side := range 4 {
		if c.below(3) == 0 {
			s.Margin[side] = oneOf(c, kind(api.Auto), fixed(c.below(100)-30), fixed(c.below(100)-30), share(c.below(20000)), someSize(c, wild))
		}
		if c.below(5) == 0 {
			s.Pad[side], s.Edge[side] = oneOf(c, fixed(c.below(30)), share(c.below(10000)), someSize(c, wild)), c.below(10)
		}
	}
	if c.below(6) == 0 {
		s.RatioN, s.RatioD = oneOf(c, 1000, 2000, c.below(5000)), oneOf(c, 1000, 3000, c.below(5000))
	}
	if wild {
		for _, n := range []*int{&s.Display, &s.Type, &s.Dir, &s.Wrap, &s.Grow, &s.Shrink, &s.Order, &s.Justify, &s.Items, &s.Self, &s.Content, &s.ColGap.N, &s.ColGap.Kind, &s.RowGap.N, &s.RowGap.Kind, &s.Font, &s.Line, &s.RatioN, &s.RatioD, &s.Edge[0], &s.Edge[3], &s.Margin[0].N, &s.Margin[1].N, &s.W.N, &s.H.N, &s.Basis.N} {
			if c.below(12) == 0 {
				*n = oneOf(c, -1, 0, 1, 2, 3, 4, someLength(c))
			}
		}
	}
	return s
}

// someStyles are as many as told, or some more or fewer.
func someStyles(c *chance, n int, wild bool) []api.Style {
	if wild {
		n = oneOf(c, n, n, n+2, c.below(n+1))
	}
	var s []api.Style
	for range n {
		s = append(s, someStyle(c, wild))
	}
	return s
}

// someTree is a tree of n nodes that looks like chance.
func someTree(t *testing.T, c *chance, n int) []api.Node {
	t.Helper()
	l := []api.Node{{Parent: -1, Tag: "a"}}
	for i := 1; i < n; i++ {
		up := i - 1
		for l[up].Tag == "" || up > 0 && c.below(3) == 0 {
			up = l[up].Parent
		}
		one := api.Node{Parent: up, Tag: "b"}
		if c.below(4) == 0 {
			one = api.Node{Parent: up, Text: oneOf(c, "", " ", "ab cd", "ab abcd a b abcd", "a", "iii WWW", " x ")}
		}
		l = append(l, one)
	}
	if e := tree.Check(l); e != api.OK {
		t.Fatalf("%+v: %d", l, e)
	}
	return l
}

// someView is a window that looks like chance.
func someView(c *chance, wild bool) api.View {
	if wild && c.below(3) == 0 {
		return api.View{W: someLength(c), H: someLength(c)}
	}
	return api.View{W: oneOf(c, 1000, 300, c.below(1500)), H: oneOf(c, 500, c.below(1000), -1)}
}

// reckon fails if a page is not laid out as the chapter's words say.
func reckon(t *testing.T, l []api.Node, s []api.Style, v api.View) []api.Box {
	t.Helper()
	want, events := reckoned(l, s, v)
	if got := lay.Lay(l, s, v); !slices.Equal(got, want) {
		t.Fatalf("%+v, %+v, %+v:\n%s, not\n%s", l, s, v, told(got), told(want))
	}
	var e trace
	if got := lay.Walk(l, s, v, e.seal, e.frozen); !slices.Equal(got, want) || e.String() != events {
		t.Fatalf("%+v, %+v, %+v:\n%s and %s, not\n%s and %s", l, s, v, told(got), e.String(), told(want), events)
	}
	return want
}

// TestReckoned: P24.1, P24.2, of many ordinary pages.
func TestReckoned(t *testing.T) {
	c := chance(1)
	shown, moved := 0, 0
	for range 12000 {
		n := 1 + c.below(14)
		for _, b := range reckon(t, someTree(t, &c, n), someStyles(&c, n, false), someView(&c, false)) {
			if b.Shown {
				shown++
			}
			if b.X != 0 && b.Y != 0 && b.W > 0 && b.H > 0 {
				moved++
			}
		}
	}
	if shown < 35000 || moved < 12000 {
		t.Errorf("%d boxes, %d of them something", shown, moved)
	}
}

// TestReckonedWild: P1, P24.1, P24.2, of many pages with styles of which some are odd, at the ends, too few or too many.
func TestReckonedWild(t *testing.T) {
	c := chance(3)
	for range 12000 {
		n := 1 + c.below(9)
		for _, b := range reckon(t, someTree(t, &c, n), someStyles(&c, n, true), someView(&c, true)) {
			if b.X != fix.Hold(b.X) || b.Y != fix.Hold(b.Y) || b.W < 0 || b.W > end || b.H < 0 || b.H > end {
				t.Fatalf("%+v", b)
			}
		}
	}
}

// TestAnything: P1: every call ends and none panics, whatever it is given.
func TestAnything(t *testing.T) {
	c := chance(5)
	one := func() int { return oneOf(&c, append(ends(), 2, 3, 4, 5, 6, 7)...) }
	size := func() api.Size { return api.Size{Kind: one(), N: one()} }
	for range 12000 {
		n := c.below(7)
		l := make([]api.Node, n)
		for i := range l {
			l[i] = api.Node{Parent: oneOf(&c, i-1, i-1, 0, c.below(i+1), one()), Tag: oneOf(&c, "", "a", "a")}
			if l[i].Tag == "" || c.below(9) == 0 {
				l[i].Text = oneOf(&c, "", "a", "ab cd", "\x00")
			}
		}
		if c.below(3) > 0 && n > 0 {
			l = someTree(t, &c, n)
		}
		s := someStyles(&c, n, true)
		for i := range s {
			s[i] = api.Style{Display: one(), Border: c.below(2) == 0, W: size(), H: size(), MinW: size(), MinH: size(), MaxW: size(), MaxH: size(), Margin: [4]api.Size{size(), size(), size(), size()}, Pad: [4]api.Size{size(), size(), size(), size()}, Edge: [4]int{one(), one(), one(), one()}, RatioN: one(), RatioD: one(), Dir: one(), Wrap: one(), Grow: one(), Shrink: one(), Basis: size(), Order: one(), Justify: one(), Items: one(), Self: one(), Content: one(), RowGap: size(), ColGap: size(), Type: one(), Font: one(), Line: one()}
		}
		v := api.View{W: one(), H: one()}
		if tree.Check(l) != api.OK {
			if got := lay.Lay(l, s, v); len(got) > 0 {
				t.Fatalf("%+v: %v", l, got)
			}
			continue
		}
		reckon(t, l, s, v)
		// Who is told may change whatever it likes.
		lay.Walk(l, s, v, func(i, w, h int) {
			for k := range s {
				s[k] = someStyle(&c, true)
			}
		}, func(i, n int) {
			for k := range s {
				s[k] = someStyle(&c, true)
			}
		})
	}
}

// beneath tells whether a node stands beneath another one.
func beneath(l []api.Node, i, up int) bool {
	return slices.Contains(tree.Ups(l, i), up)
}

// TestContained: P24.3: the styles beneath a holder change nothing that they must not.
func TestContained(t *testing.T) {
	c := chance(7)
	changed := [3]int{}
	for range 10000 {
		n := 2 + c.below(12)
		l, s, v := someTree(t, &c, n), someStyles(&c, n, false), someView(&c, false)
		i := c.below(n)
		if l[i].Tag == "" {
			i = l[i].Parent
		}
		other := slices.Clone(s)
		for k := range other {
			if beneath(l, k, i) {
				other[k] = someStyle(&c, false)
			}
		}
		for _, kind := range []int{api.Normal, api.InlineBox, api.SizeBox} {
			s[i].Type, other[i].Type = kind, kind
			first, second := lay.Lay(l, s, v), lay.Lay(l, other, v)
			for k, b := range first {
				if beneath(l, k, i) {
					continue
				}
				if b != second[k] {
					changed[kind]++
				}
				if kind == api.SizeBox && b != second[k] || kind == api.InlineBox && (k == i || beneath(l, i, k)) && (b.X != second[k].X || b.W != second[k].W || b.Shown != second[k].Shown) {
					t.Fatalf("%+v, %+v, %+v, %+v:\nbeneath %d: %s, not\n%s", l, s, other, v, i, told(second), told(first))
				}
			}
		}
	}
	if changed[api.Normal] < 2000 || changed[api.InlineBox] < 2000 || changed[api.SizeBox] > 0 {
		t.Errorf("%v boxes have changed", changed)
	}
}

// TestSealed: P24.4: each holder that is laid out is sealed once, and ahead of those beneath it.
func TestSealed(t *testing.T) {
	c := chance(9)
	all := 0
	for range 12000 {
		n := 1 + c.below(14)
		l, s := someTree(t, &c, n), someStyles(&c, n, false)
		var order []int
		boxes := lay.Walk(l, s, someView(&c, false), func(i, w, h int) {
			if w < 0 || h < 0 || s[i].Type == api.InlineBox && h != 0 {
				t.Fatalf("%+v, %+v: %d: %d, %d", l, s, i, w, h)
			}
			for _, k := range order {
				if k == i || beneath(l, k, i) {
					t.Fatalf("%+v, %+v: %d behind %v", l, s, i, order)
				}
			}
			order = append(order, i)
		}, nil)
		for i, b := range boxes {
			holder := l[i].Tag != "" && (s[i].Type == api.InlineBox || s[i].Type == api.SizeBox)
			if slices.Contains(order, i) != (holder && b.Shown) {
				t.Fatalf("%+v, %+v: %d is not in %v", l, s, i, order)
			}
		}
		all += len(order)
	}
	if all < 6000 {
		t.Errorf("%d holders", all)
	}
}

// TestShown: P24.5: just what stands in the flow, and all above it does, is shown.
func TestShown(t *testing.T) {
	c := chance(11)
	for range 10000 {
		n := 1 + c.below(14)
		l, s := someTree(t, &c, n), someStyles(&c, n, c.below(2) == 0)
		for i, b := range lay.Lay(l, s, someView(&c, true)) {
			want := intrinsic.Flows(l, s, i)
			for _, up := range tree.Ups(l, i) {
				want = want && intrinsic.Flows(l, s, up)
			}
			if b.Shown != want || !want && b != (api.Box{}) || (b.Lines > 0) != (want && l[i].Tag == "") {
				t.Fatalf("%+v, %+v: %d: %+v", l, s, i, b)
			}
		}
	}
}

// TestDescent: P24.2: whatever the styles beneath holders are ahead of these being sealed, those that they have then count.
func TestDescent(t *testing.T) {
	c := chance(13)
	for range 10000 {
		n := 1 + c.below(14)
		l, last, v := someTree(t, &c, n), someStyles(&c, n, false), someView(&c, false)
		want := lay.Lay(l, last, v)
		s := slices.Clone(last)
		for i := range s {
			for _, up := range tree.Ups(l, i) {
				if last[up].Type != api.Normal {
					s[i] = someStyle(&c, true)
				}
			}
		}
		got := lay.Walk(l, s, v, func(i, w, h int) {
			for k := i + 1; k < tree.End(l, i); k++ {
				s[k] = last[k]
			}
		}, nil)
		if !slices.Equal(got, want) {
			t.Fatalf("%+v, %+v: %s, not %s", l, last, told(got), told(want))
		}
	}
}

// TestKept: what is handed in is neither changed nor kept, and what is answered is new.
func TestKept(t *testing.T) {
	c := chance(15)
	for range 500 {
		n := 1 + c.below(9)
		l, s, v := someTree(t, &c, n), someStyles(&c, n, true), someView(&c, false)
		wasL, wasS := slices.Clone(l), slices.Clone(s)
		first := lay.Lay(l, s, v)
		was := slices.Clone(first)
		for i := range first {
			first[i] = api.Box{X: -7}
		}
		if !slices.Equal(lay.Lay(l, s, v), was) || !slices.Equal(lay.Walk(l, s, v, nil, nil), was) {
			t.Fatalf("%+v, %+v", l, s)
		}
		if !reflect.DeepEqual(l, wasL) || !slices.Equal(s, wasS) {
			t.Fatalf("%+v was %+v, %+v was %+v", l, wasL, s, wasS)
		}
	}
}

// TestGreat: P1: the greatest trees are laid out, wide ones and deep ones.
func TestGreat(t *testing.T) {
	for _, how := range []func(i int) int{
		func(i int) int { return 0 },
		func(i int) int { return min(i-1, api.MaxDepth-2) },
		func(i int) int { return min(i%60, 1) * (i - 1) },
	} {
		l := []api.Node{{Parent: -1, Tag: "a"}}
		for i := 1; i < api.MaxNodes; i++ {
			l = append(l, api.Node{Parent: how(i), Tag: "a"})
		}
		if e := tree.Check(l); e != api.OK {
			t.Fatalf("%d", e)
		}
		for _, do := range [][]edit{nil, {flex}, {flex, wrap(1)}, {flex, dir(2)}, {inline}, {sized, flex}} {
			s := slices.Repeat(styles(1, at(0, append(do, margins(1, 2, 3, 4), high(10), wide(90))...)), len(l))
			reckon(t, l, s, api.View{W: 1000, H: 1000})
		}
	}
}
