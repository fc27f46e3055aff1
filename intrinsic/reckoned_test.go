package intrinsic_test

import (
	"reflect"
	"slices"
	"testing"

	"wainscot/api"
	"wainscot/fix"
	"wainscot/intrinsic"
	"wainscot/sizing"
	"wainscot/tree"
	"wainscot/words"
)

// chance hands out numbers that look like chance, the same ones in every run.
type chance uint64

func (c *chance) below(n int) int {
	*c = *c*6364136223846793005 + 1442695040888963407
	return int(uint64(*c)>>33) % n
}

// oneOf is one of some.
func oneOf[T any](c *chance, l ...T) T {
	return l[c.below(len(l))]
}

// ends are numbers at which something may change.
func ends() []int {
	return []int{lowest, lowest + 1, -end - 1, -end, 1 - end, -64, -1, 0, 1, 64, end - 1, end, end + 1, 1<<32 + 1, highest}
}

// The chapter's words, one by one.

// styleOf is a node's style.
func styleOf(s []api.Style, i int) api.Style {
	if i >= 0 && i < len(s) {
		return s[i]
	}
	return api.Style{}
}

// flowsOf tells whether a node stands in the flow.
func flowsOf(l []api.Node, s []api.Style, i int) bool {
	if l[i].Tag != "" {
		return styleOf(s, i).Display != api.Hidden
	}
	return len(words.Split(l[i].Text)) >= 1
}

// kidsOf are a node's kids.
func kidsOf(l []api.Node, s []api.Style, i int) []int {
	var kids []int
	for k := range l {
		if l[k].Parent == i && i < k && flowsOf(l, s, k) {
			kids = append(kids, k)
		}
	}
	return kids
}

// bareOf is a style of which each size that hangs on a room is told anew.
func bareOf(s api.Style) api.Style {
	switch s.W.Kind {
	case api.Share, api.FitCont:
		s.W = api.Size{}
	}
	switch s.MinW.Kind {
	case api.Share:
		s.MinW = api.Size{}
	case api.FitCont:
		s.MinW = kind(api.MinCont)
	}
	switch s.MaxW.Kind {
	case api.Share:
		s.MaxW = kind(api.None)
	case api.FitCont:
		s.MaxW = kind(api.MaxCont)
	}
	for _, z := range []*api.Size{&s.Margin[0], &s.Margin[1], &s.Margin[2], &s.Margin[3], &s.Pad[0], &s.Pad[1], &s.Pad[2], &s.Pad[3]} {
		if z.Kind == api.Share {
			*z = fixed(0)
		}
	}
	return s
}

// ownOf is the widths of a node's content: what is asked for by no one is told of no one.
func ownOf(l []api.Node, s []api.Style, i int) (int, int) {
	one := styleOf(s, i)
	if l[i].Tag == "" || one.Type == 1 || one.Type == 2 {
		return 0, 0
	}
	sumLow, sumHigh, low, high := 0, 0, 0, 0
	for n, k := range kidsOf(l, s, i) {
		a, b := outerOf(l, s, k)
		low, high = max(low, a), max(high, b)
		if n > 0 && one.ColGap.Kind == api.Fixed && one.ColGap.N > 0 {
			sumLow, sumHigh = fix.Add(sumLow, one.ColGap.N), fix.Add(sumHigh, one.ColGap.N)
		}
		sumLow, sumHigh = fix.Add(sumLow, a), fix.Add(sumHigh, b)
	}
	if one.Display != api.Flex || one.Dir < 0 || one.Dir > 1 {
		return low, high
	}
	if one.Wrap != 0 {
		return low, sumHigh
	}
	return sumLow, sumHigh
}

// turnedOf is a bare case's height, turned: of a size that says the width's is its content's, or the box's.
func turnedOf(c sizing.Case, h int) int {
	across, down := sizing.Around(c)
	if c.Style.Border {
		return max(fix.Part(h, c.Style.RatioN, c.Style.RatioD), across)
	}
	return fix.Add(max(0, fix.Part(max(0, fix.Sub(h, down)), c.Style.RatioN, c.Style.RatioD)), across)
}

// outerOf is a node's outer widths.
func outerOf(l []api.Node, s []api.Style, i int) (int, int) {
	if l[i].Tag == "" {
		em := 0
		if up := l[i].Parent; up >= 0 && up < i {
			em = max(0, styleOf(s, up).Font)
		}
		return words.Extremes(l[i].Text, em)
	}
	c := sizing.Case{Style: bareOf(styleOf(s, i)), Base: -1}
	low, high := ownOf(l, s, i)
	across, _ := sizing.Around(c)
	c.Least, c.Most = fix.Add(low, across), fix.Add(high, across)
	both := [2]int{c.Least, c.Most}
	for n := range both {
		if w, some := sizing.SaysW(c, c.Style.W); some {
			both[n] = w
		} else if h, some := sizing.Given(c); some && c.Style.RatioN > 0 && c.Style.RatioD > 0 {
			both[n] = turnedOf(c, h)
		}
		both[n] = sizing.KeepW(c, both[n])
		for _, side := range []int{api.Left, api.Right} {
			if m := c.Style.Margin[side]; m.Kind == api.Fixed {
				both[n] = fix.Add(both[n], m.N)
			}
		}
		both[n] = max(0, both[n])
	}
	return both[0], both[1]
}

// caseOf is a node's case.
func caseOf(l []api.Node, s []api.Style, i, avail, base int) sizing.Case {
	c := sizing.Case{Style: styleOf(s, i), Avail: fix.Hold(avail), Base: fix.Hold(base)}
	low, high := ownOf(l, s, i)
	across, _ := sizing.Around(c)
	c.Least, c.Most = fix.Add(low, across), fix.Add(high, across)
	return c
}

// someLength is one that looks like chance.
func someLength(c *chance) int {
	return oneOf(c, 0, c.below(100), c.below(5000), -c.below(1000), oneOf(c, ends()...))
}

// someSize is a size that looks like chance, an ordinary one or any.
func someSize(c *chance, wild bool) api.Size {
	if wild && c.below(3) == 0 {
		return api.Size{Kind: oneOf(c, 0, 1, 2, 3, 4, 5, 6, oneOf(c, ends()...)), N: someLength(c)}
	}
	return oneOf(c, api.Size{}, fixed(c.below(3000)), share(c.below(150000)), kind(api.MinCont), kind(api.MaxCont), kind(api.FitCont), kind(api.None))
}

// someStyle is one that looks like chance.
func someStyle(c *chance, wild bool) api.Style {
	s := plain(font(oneOf(c, 1000, 1024, 0, c.below(4000))))
	s.Display = oneOf(c, api.Block, api.Block, api.Flex, api.Flex, api.Flex, api.Hidden)
	s.Border, s.Type = c.below(2) == 0, oneOf(c, 0, 0, 0, 0, 0, 1, 2)
	s.Dir, s.Wrap, s.ColGap = c.below(4), oneOf(c, 0, 0, 1, 2), oneOf(c, fixed(0), fixed(c.below(100)), share(10000))
	for _, z := range []*api.Size{&s.W, &s.H, &s.MinW, &s.MinH, &s.MaxW, &s.MaxH} {
		if c.below(4) == 0 {
			*z = someSize(c, wild)
		}
	}
	for side := range 4 {
		if c.below(3) == 0 {
			s.Margin[side] = oneOf(c, kind(api.Auto), fixed(c.below(300)-100), share(c.below(50000)), someSize(c, wild))
			s.Pad[side] = oneOf(c, fixed(c.below(100)), share(c.below(50000)), someSize(c, wild))
			s.Edge[side] = c.below(50)
		}
	}
	if c.below(3) == 0 {
		s.RatioN, s.RatioD = oneOf(c, 1000, 16000, c.below(5000)), oneOf(c, 1000, 9000, c.below(5000))
	}
	if wild {
		for _, n := range []*int{&s.Display, &s.Type, &s.Dir, &s.Wrap, &s.ColGap.N, &s.ColGap.Kind, &s.Font, &s.RatioN, &s.RatioD, &s.Edge[1], &s.Edge[3]} {
			if c.below(12) == 0 {
				*n = oneOf(c, -1, 0, 1, 2, 3, 4, someLength(c))
			}
		}
	}
	return s
}

// someText is one of some texts.
func someText(c *chance) string {
	return oneOf(c, "", " ", "ab cd", "a", "iii WWW", " x ", "a b c d e f", "%", "~ \xff")
}

// someTree is a tree of n nodes that looks like chance.
func someTree(c *chance, n int) []api.Node {
	l := []api.Node{{Parent: -1, Tag: "a"}}
	for i := 1; i < n; i++ {
		up := i - 1
		for l[up].Tag == "" || up > 0 && c.below(3) == 0 {
			up = l[up].Parent
		}
		one := api.Node{Parent: up, Tag: "b"}
		if c.below(3) == 0 {
			one = api.Node{Parent: up, Text: someText(c)}
		}
		l = append(l, one)
	}
	return l
}

// someList is a list of n nodes that looks like chance, mostly no tree.
func someList(c *chance, n int) []api.Node {
	var l []api.Node
	for i := range n {
		l = append(l, api.Node{Parent: oneOf(c, i-1, i-1, 0, 1, c.below(i+1), oneOf(c, -1, i, n, lowest, highest)), Tag: oneOf(c, "", "a", "a"), Text: someText(c)})
	}
	return l
}

// someStyles are as many as told, or some more or fewer.
func someStyles(c *chance, n int, wild bool) []api.Style {
	if wild {
		n = oneOf(c, n, n, n+2, c.below(n+1))
	}
	var s []api.Style
	for range n {
		s = append(s, someStyle(c, wild))
	}
	return s
}

// reckon fails if what is answered of a page is not as the chapter's words say.
func reckon(t *testing.T, c *chance, l []api.Node, s []api.Style) {
	t.Helper()
	for i := range l {
		if got := intrinsic.Flows(l, s, i); got != flowsOf(l, s, i) {
			t.Fatalf("%+v, %+v: %d: %t", l, s, i, got)
		}
		if got, want := intrinsic.Kids(l, s, i), kidsOf(l, s, i); !slices.Equal(got, want) {
			t.Fatalf("%+v, %+v: %d: %v, not %v", l, s, i, got, want)
		}
		if got, want := intrinsic.Bare(styleOf(s, i)), bareOf(styleOf(s, i)); got != want {
			t.Fatalf("%+v: %+v, not %+v", styleOf(s, i), got, want)
		}
		low, high := intrinsic.Own(l, s, i)
		if a, b := ownOf(l, s, i); low != a || high != b {
			t.Fatalf("%+v, %+v: own of %d: %d, %d, not %d, %d", l, s, i, low, high, a, b)
		}
		outLow, outHigh := intrinsic.Outer(l, s, i)
		if a, b := outerOf(l, s, i); outLow != a || outHigh != b {
			t.Fatalf("%+v, %+v: outer of %d: %d, %d, not %d, %d", l, s, i, outLow, outHigh, a, b)
		}
		avail, base := someLength(c), someLength(c)
		got := intrinsic.Case(l, s, i, avail, base)
		if want := caseOf(l, s, i, avail, base); got != want {
			t.Fatalf("%+v, %+v: %d: %+v, not %+v", l, s, i, got, want)
		}
		// P23.4.
		if low > high || outLow > outHigh || got.Least > got.Most || min(low, outLow, got.Least) < 0 {
			t.Fatalf("%+v, %+v: %d: %d, %d, and %d, %d, and %+v", l, s, i, low, high, outLow, outHigh, got)
		}
	}
}

// TestReckonedTrees: P23.1 to P23.4, of many ordinary trees.
func TestReckonedTrees(t *testing.T) {
	c := chance(1)
	for range 4000 {
		n := 1 + c.below(14)
		l := someTree(&c, n)
		if e := tree.Check(l); e != api.OK {
			t.Fatalf("%+v: %d", l, e)
		}
		reckon(t, &c, l, someStyles(&c, n, false))
	}
}

// TestReckonedLists: P1, P23.1 to P23.4, of many lists, most of them no trees, with styles of which some are odd, too few or too many.
func TestReckonedLists(t *testing.T) {
	c := chance(3)
	for range 8000 {
		n := c.below(9)
		reckon(t, &c, someList(&c, n), someStyles(&c, n, true))
	}
}

// TestSealed: P23.5: what stands beneath a holder changes nothing of it, nor of what is above or beside it.
func TestSealed(t *testing.T) {
	c := chance(5)
	changed := 0
	for range 4000 {
		n := 2 + c.below(12)
		l := someTree(&c, n)
		s := someStyles(&c, n, false)
		i := c.below(n)
		if l[i].Tag == "" {
			i = l[i].Parent
		}
		s[i].Type = oneOf(&c, api.InlineBox, api.SizeBox)
		// What stands beneath it is another tree's, with other styles.
		m := someTree(&c, 1+c.below(5))
		from, more := tree.End(l, i), len(m)-1
		other, e := tree.Graft(l, i, m)
		if e != api.OK {
			t.Fatalf("%+v, %+v: %d", l, m, e)
		}
		otherS := slices.Concat(s[:i+1], someStyles(&c, more, false), s[from:])
		for k := range l {
			if k > i && k < from {
				continue
			}
			moved := k
			if k >= from {
				moved = i + 1 + more + k - from
			}
			got, want := widthsOf(other, otherS, moved), widthsOf(l, s, k)
			if got != want {
				t.Fatalf("%+v, %+v: %d: %v; %+v, %+v: %d: %v", l, s, k, want, other, otherS, moved, got)
			}
		}
		// An open element asks what this one does not.
		s[i].Type, otherS[i].Type = 0, 0
		if widthsOf(l, s, i) != widthsOf(other, otherS, i) {
			changed++
		}
	}
	if changed < 1000 {
		t.Errorf("%d would have changed", changed)
	}
}

// widthsOf is all that is answered of a node's widths.
func widthsOf(l []api.Node, s []api.Style, i int) [6]int {
	a, b := intrinsic.Own(l, s, i)
	d, e := intrinsic.Outer(l, s, i)
	c := intrinsic.Case(l, s, i, 640, 480)
	return [6]int{a, b, d, e, c.Least, c.Most}
}

// TestRoomless: P23.2: what hangs on a room changes no outer width.
func TestRoomless(t *testing.T) {
	c := chance(7)
	for range 4000 {
		n := 1 + c.below(10)
		l, s := someTree(&c, n), someStyles(&c, n, false)
		bare := make([]api.Style, n)
		for i := range s {
			bare[i] = intrinsic.Bare(s[i])
			if intrinsic.Bare(bare[i]) != bare[i] {
				t.Fatalf("%+v", bare[i])
			}
		}
		for i := range l {
			low, high := intrinsic.Outer(l, s, i)
			if a, b := intrinsic.Outer(l, bare, i); a != low || b != high {
				t.Fatalf("%+v, %+v: %d: %d, %d, and %d, %d", l, s, i, low, high, a, b)
			}
		}
	}
}

// TestKept: what is handed in is neither changed nor kept, and no answer is told again another way.
func TestKept(t *testing.T) {
	c := chance(9)
	for range 500 {
		n := 1 + c.below(9)
		l, s := someList(&c, n), someStyles(&c, n, true)
		wasL, wasS := slices.Clone(l), slices.Clone(s)
		for i := range l {
			first := widthsOf(l, s, i)
			kids := intrinsic.Kids(l, s, i)
			for k := range kids {
				kids[k] = -7
			}
			if widthsOf(l, s, i) != first || !slices.Equal(intrinsic.Kids(l, s, i), kidsOf(l, s, i)) {
				t.Fatalf("%+v, %+v: %d", l, s, i)
			}
		}
		if !reflect.DeepEqual(l, wasL) || !slices.Equal(s, wasS) {
			t.Fatalf("%+v was %+v, %+v was %+v", l, wasL, s, wasS)
		}
	}
}

// TestAnything: P1: every call ends and none panics, whatever it is given, and all numbers are held.
func TestAnything(t *testing.T) {
	c := chance(11)
	odd := append(ends(), 2, 3, 4, 5, 6, 7, 8)
	one := func() int { return oneOf(&c, odd...) }
	size := func() api.Size { return api.Size{Kind: one(), N: one()} }
	for range 20000 {
		n := c.below(6)
		l, s := someList(&c, n), someStyles(&c, n, true)
		for i := range s {
			s[i] = api.Style{Display: one(), Border: c.below(2) == 0, W: size(), H: size(), MinW: size(), MinH: size(), MaxW: size(), MaxH: size(), Margin: [4]api.Size{size(), size(), size(), size()}, Pad: [4]api.Size{size(), size(), size(), size()}, Edge: [4]int{one(), one(), one(), one()}, RatioN: one(), RatioD: one(), Dir: one(), Wrap: one(), ColGap: size(), Type: one(), Font: one()}
		}
		i := oneOf(&c, one(), c.below(6))
		low, high := intrinsic.Own(l, s, i)
		outLow, outHigh := intrinsic.Outer(l, s, i)
		k := intrinsic.Case(l, s, i, one(), one())
		if low < 0 || low > high || high > end || outLow < 0 || outLow > outHigh || outHigh > end || k.Least < 0 || k.Least > k.Most || k.Most > end {
			t.Fatalf("%+v, %+v: %d: %d, %d, and %d, %d, and %+v", l, s, i, low, high, outLow, outHigh, k)
		}
		if some := i >= 0 && i < n; !some && (intrinsic.Flows(l, s, i) || len(intrinsic.Kids(l, s, i)) > 0 || high > 0 || outHigh > 0 || k.Most > 0) {
			t.Fatalf("%+v, %+v: there is no node %d", l, s, i)
		}
	}
}

// TestMany: P1: however many nodes there are, and however deep they stand.
func TestMany(t *testing.T) {
	const many = 1 << 16
	var chain, row []api.Node
	for i := range many {
		chain = append(chain, api.Node{Parent: i - 1, Tag: "a"})
		row = append(row, api.Node{Parent: min(i, 1) - 1, Tag: "a"})
	}
	chain[many-1] = api.Node{Parent: many - 2, Text: "ab cd"}
	s := slices.Repeat([]api.Style{plain(flex, gap(fixed(3)), pads(fixed(1), fixed(1)))}, many)
	if low, high := intrinsic.Outer(chain, s, 0); low != 1000+2*(many-1) || high != 2250+2*(many-1) {
		t.Errorf("%d, %d", low, high)
	}
	if low, high := intrinsic.Own(row, s, 0); low != 2*(many-1)+3*(many-2) || high != low {
		t.Errorf("%d, %d", low, high)
	}
}
