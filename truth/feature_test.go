package truth_test

import (
	"math/big"
	"testing"

	"wainscot/api"
	"wainscot/fix"
	"wainscot/truth"
)

// compares tells by the chapter's words whether a Op b.
func compares(a *big.Int, op int, b *big.Int) bool {
	switch op {
	case api.Less:
		return a.Cmp(b) < 0
	case api.AtMost:
		return a.Cmp(b) <= 0
	case api.AtLeast:
		return a.Cmp(b) >= 0
	case api.Greater:
		return a.Cmp(b) > 0
	}
	return a.Cmp(b) == 0
}

// featureOf is what a right Feature says, by the chapter's words.
func featureOf(n api.QNode, e api.Extent) int {
	wide := n.Feature == api.Width || n.Feature == api.InlineSize
	if e.Type != api.SizeBox && (e.Type != api.InlineBox || !wide) {
		return api.Unknown
	}
	w, h := fix.Hold(e.W), fix.Hold(e.H)
	holds := true
	check := func(b api.Bound, turned bool) {
		times := func(a, b int) *big.Int { return new(big.Int).Mul(big.NewInt(int64(a)), big.NewInt(int64(b))) }
		var x, y *big.Int
		switch n.Feature {
		case api.Width, api.InlineSize:
			x, y = times(w, 1), times(fix.Px(b.N), 1)
		case api.Height, api.BlockSize:
			x, y = times(h, 1), times(fix.Px(b.N), 1)
		case api.AspectRatio:
			x, y = times(w, b.D), times(b.N, h)
		default:
			x, y = times(api.Landscape, 1), times(b.N, 1)
			if h >= w {
				x = times(api.Portrait, 1)
			}
		}
		if turned {
			x, y = y, x
		}
		holds = holds && compares(x, b.Op, y)
	}
	if n.Lo.Op != 0 {
		check(n.Lo, true)
	}
	if n.Hi.Op != 0 {
		check(n.Hi, false)
	} else {
		holds = n.Feature == api.Orientation || (wide || h != 0) && (n.Feature == api.Height || n.Feature == api.BlockSize || w != 0)
	}
	if holds {
		return api.True
	}
	return api.False
}

// values are a few values of a feature's bounds, without their Op.
func values(f int) []api.Bound {
	switch f {
	case api.AspectRatio:
		return []api.Bound{bound(0, 1, 1), bound(0, 4000, 3000), bound(0, 3, 4), bound(0, 1, api.MaxNum), bound(0, api.MaxNum, 1), bound(0, api.MaxNum, api.MaxNum), bound(0, api.MaxNum, api.MaxNum-1), bound(0, api.MaxNum-1, api.MaxNum)}
	case api.Orientation:
		return []api.Bound{bound(0, api.Portrait, 0), bound(0, api.Landscape, 0)}
	}
	var l []api.Bound
	for _, n := range []int{-api.MaxLen, -1000, -1, 0, 1, 15, 16, 1000, 300000, 400000, 400001, 400015, 400016, api.MaxLen} {
		l = append(l, bound(0, n, 0))
	}
	return l
}

// pairs are the Ops of two bounds that go one way.
func pairs() [][2]int {
	return [][2]int{{1, 1}, {1, 2}, {2, 1}, {2, 2}, {4, 4}, {4, 5}, {5, 4}, {5, 5}}
}

// features hands over the nodes of features, of each with all its few bounds.
func features(take func(n api.QNode)) {
	for f := api.Width; f <= api.Orientation; f++ {
		take(ask(f, api.Bound{}, api.Bound{}))
		for _, hi := range values(f) {
			if f == api.Orientation {
				hi.Op = api.Equals
				take(ask(f, api.Bound{}, hi))
				continue
			}
			for hi.Op = api.Less; hi.Op <= api.Greater; hi.Op++ {
				take(ask(f, api.Bound{}, hi))
			}
			for _, lo := range values(f) {
				for _, p := range pairs() {
					lo.Op, hi.Op = p[0], p[1]
					take(ask(f, lo, hi))
				}
			}
		}
	}
}

// sizes are a few of them, those at which something may change.
func sizes() []int {
	return []int{least, -api.MaxLen - 1, -api.MaxLen, -64, -1, 0, 1, 64, 300 * 64, 400 * 64, 400*64 + 1, fix.Px(api.MaxLen), api.MaxLen - 1, api.MaxLen, api.MaxLen + 1, most}
}

// someNodes is a right tree of at most n nodes that looks like chance.
func someNodes(c *chance, n int) []api.QNode {
	if kind := oneOf(c, api.And, api.Or, api.Not, api.Feature, api.Feature); n >= 3 && kind != api.Feature {
		if kind == api.Not {
			return joined(kind, someNodes(c, n-1))
		}
		var l [][]api.QNode
		for left, k := n-1, 2+c.below(min(3, n-2)); k > 0; k-- {
			one := someNodes(c, left-k+1)
			left -= len(one)
			l = append(l, one)
		}
		return joined(kind, l...)
	}
	f := 1 + c.below(api.Orientation)
	hi, lo := oneOf(c, values(f)...), oneOf(c, values(f)...)
	hi.Op = 1 + c.below(api.Greater)
	switch {
	case c.below(4) == 0:
		return []api.QNode{ask(f, api.Bound{}, api.Bound{})}
	case f == api.Orientation:
		hi.Op = api.Equals
	case c.below(2) == 0:
		p := oneOf(c, pairs()...)
		lo.Op, hi.Op = p[0], p[1]
		return []api.QNode{ask(f, lo, hi)}
	}
	return []api.QNode{ask(f, api.Bound{}, hi)}
}

// someExtent is one that looks like chance.
func someExtent(c *chance) api.Extent {
	return api.Extent{Type: oneOf(c, 0, 1, 1, 2, 2, 2, -1), Name: oneOf(c, "", "a", "b"), W: oneOf(c, sizes()...), H: oneOf(c, sizes()...)}
}

// TestFeatures: P14.2 of each feature with all its few bounds, and of all extents of a few sizes.
func TestFeatures(t *testing.T) {
	features(func(n api.QNode) {
		for _, w := range sizes() {
			for _, h := range sizes() {
				e := api.Extent{Type: api.SizeBox, W: w, H: h}
				if got, want := truth.Eval(of(n), e), featureOf(n, e); got != want {
					t.Fatalf("%v of %v: %d, not %d", n, e, got, want)
				}
			}
		}
	})
}

// TestKnown: P14.2: which features are known of which type.
func TestKnown(t *testing.T) {
	for _, kind := range []int{least, -1, api.Normal, api.InlineBox, api.SizeBox, 3, 1<<32 + 1, 1<<32 + 2, most} {
		features(func(n api.QNode) {
			wide := n.Feature == api.Width || n.Feature == api.InlineSize
			known := kind == api.SizeBox || kind == api.InlineBox && wide
			e := extent(kind, 400, 300)
			if got := truth.Eval(of(n), e); (got != api.Unknown) != known || got != featureOf(n, e) {
				t.Fatalf("%v of type %d: %d", n, kind, got)
			}
		})
	}
}

// TestNoBounds: P14.2 of features alone.
func TestNoBounds(t *testing.T) {
	for _, c := range []struct {
		w, h int
		want [6]int
	}{
		{1, 1, [6]int{1, 1, 1, 1, 1, 1}}, {0, 1, [6]int{0, 1, 0, 1, 0, 1}}, {1, 0, [6]int{1, 0, 1, 0, 0, 1}}, {0, 0, [6]int{0, 0, 0, 0, 0, 1}}, {-1, -1, [6]int{1, 1, 1, 1, 1, 1}}, {most, least, [6]int{1, 1, 1, 1, 1, 1}},
	} {
		for i, want := range c.want {
			q := of(ask(i+1, api.Bound{}, api.Bound{}))
			if got := truth.Eval(q, api.Extent{Type: api.SizeBox, W: c.w, H: c.h}); got != want {
				t.Errorf("feature %d of %d, %d: %d", i+1, c.w, c.h, got)
			}
		}
	}
}

// TestOrientation: P14.2: which one it is, of sizes that are held.
func TestOrientation(t *testing.T) {
	for _, c := range []struct{ w, h, want int }{
		{1, 1, api.Portrait}, {1, 2, api.Portrait}, {2, 1, api.Landscape}, {0, 0, api.Portrait}, {-1, -2, api.Landscape}, {most, api.MaxLen, api.Portrait}, {most, api.MaxLen - 1, api.Landscape}, {-api.MaxLen, least, api.Portrait},
	} {
		for n := api.Portrait; n <= api.Landscape; n++ {
			want := api.False
			if n == c.want {
				want = api.True
			}
			q := of(ask(api.Orientation, api.Bound{}, bound(api.Equals, n, 0)))
			if got := truth.Eval(q, api.Extent{Type: api.SizeBox, W: c.w, H: c.h}); got != want {
				t.Errorf("%d of %d, %d: %d", n, c.w, c.h, got)
			}
		}
	}
}

// TestHeld: P14.2: sizes and lengths stop at an end, products don't.
func TestHeld(t *testing.T) {
	is := func(f, n, d int) api.Query { return of(ask(f, api.Bound{}, bound(api.Equals, n, d))) }
	over := func(f, n, d int) api.Query { return of(ask(f, api.Bound{}, bound(api.Greater, n, d))) }
	for _, c := range []struct {
		q          api.Query
		w, h, want int
	}{
		// A px has 64 parts, and what is left of a thousandth falls away, downwards.
		{is(api.Width, 1500, 0), 96, 0, 1}, {is(api.Width, 1515, 0), 96, 0, 1}, {is(api.Width, 1516, 0), 97, 0, 1}, {is(api.Height, -1, 0), 0, -1, 1}, {is(api.InlineSize, 999, 0), 63, 0, 1},
		{is(api.AspectRatio, 1, 1), most, api.MaxLen, 1}, {is(api.AspectRatio, 1, 1), most, api.MaxLen - 1, 0}, {is(api.AspectRatio, api.MaxNum, 1), most, 1, 1}, {is(api.AspectRatio, 1, api.MaxNum), 1, most, 1}, {over(api.AspectRatio, api.MaxNum-1, api.MaxNum), most, most, 1}, {over(api.AspectRatio, 1, api.MaxNum), most, most, 1}, {over(api.AspectRatio, 1, api.MaxNum), least, most, 0}, {over(api.AspectRatio, api.MaxNum, 1), most, most, 0}, {over(api.AspectRatio, api.MaxNum, 1), most, least, 1},
		{over(api.Width, api.MaxLen, 0), fix.Px(api.MaxLen), 0, 0}, {over(api.Width, api.MaxLen, 0), fix.Px(api.MaxLen) + 1, 0, 1}, {over(api.Width, -api.MaxLen, 0), least, 0, 0},
		// Nothing is as wide as it is high, in any ratio.
		{is(api.AspectRatio, 16, 9), 0, 0, 1}, {is(api.AspectRatio, 9, 16), 0, 0, 1}, {is(api.AspectRatio, 9, 16), 0, 1, 0},
	} {
		if got := truth.Eval(c.q, api.Extent{Type: api.SizeBox, W: c.w, H: c.h}); got != c.want {
			t.Errorf("%v of %d, %d: %d", c.q, c.w, c.h, got)
		}
	}
}

// TestBothBounds: P14.5: two bounds say what each of them does, together.
func TestBothBounds(t *testing.T) {
	features(func(n api.QNode) {
		if n.Lo.Op == 0 {
			return
		}
		// Lo alone is Hi, turned around.
		lo := n.Lo
		lo.Op = []int{0, api.Greater, api.AtLeast, api.Equals, api.AtMost, api.Less}[lo.Op]
		for _, w := range sizes() {
			e := api.Extent{Type: api.SizeBox, W: w, H: 300 * 64}
			each := truth.And(truth.Eval(of(ask(n.Feature, api.Bound{}, lo)), e), truth.Eval(of(ask(n.Feature, api.Bound{}, n.Hi)), e))
			if got := truth.Eval(of(n), e); got != each {
				t.Fatalf("%v of %v: %d, not %d", n, e, got, each)
			}
		}
	})
}
