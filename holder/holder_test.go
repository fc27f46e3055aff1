package holder_test

import (
	"math"
	"slices"
	"testing"

	"wainscot/api"
	"wainscot/fix"
	"wainscot/holder"
	"wainscot/lex"
	"wainscot/markup"
	"wainscot/query"
	"wainscot/truth"
)

const (
	least = math.MinInt
	most  = math.MaxInt
)

// chance hands out numbers that look like chance, the same ones in every run.
type chance uint64

func (c *chance) below(n int) int {
	*c = *c*6364136223846793005 + 1442695040888963407
	return int(uint64(*c)>>33) % n
}

// oneOf is one of some.
func oneOf[T any](c *chance, l ...T) T {
	return l[c.below(len(l))]
}

// page is a text's tree.
func page(t *testing.T, s string) []api.Node {
	t.Helper()
	l, at, e := markup.Parse(s)
	if e != api.OK {
		t.Fatalf("%q: %d at %d", s, e, at)
	}
	return l
}

// asked is a text's query.
func asked(t *testing.T, s string) api.Query {
	t.Helper()
	k, e := lex.Lex(s)
	q, e2 := query.Parse(k)
	if e != api.OK || e2 != api.OK {
		t.Fatalf("%q: %d, %d", s, e, e2)
	}
	return q
}

// extent is one of so many px.
func extent(kind int, name string, w, h int) api.Extent {
	return api.Extent{Type: kind, Name: name, W: w * api.Unit, H: h * api.Unit}
}

// The chapter's words, one by one.

// isBeneath tells whether node i stands beneath node k.
func isBeneath(l []api.Node, i, k int) bool {
	p := l[i].Parent
	return p >= 0 && p < i && (p == k || isBeneath(l, p, k))
}

// known is a node's extent.
func known(x []api.Extent, k int) api.Extent {
	if k < len(x) {
		return x[k]
	}
	return api.Extent{}
}

// nearestOf is the holder of a node that has the greatest number, of those of some Types and of a name, if it is not empty.
func nearestOf(l []api.Node, x []api.Extent, i int, name string, types ...int) int {
	nearest := -1
	for k := range l {
		if i >= 0 && i < len(l) && isBeneath(l, i, k) && slices.Contains(types, known(x, k).Type) && (name == "" || known(x, k).Name == name) {
			nearest = k
		}
	}
	return nearest
}

// basesOf are the bases of a node.
func basesOf(l []api.Node, x []api.Extent, i int, v api.View) (int, int) {
	if k := nearestOf(l, x, i, "", 1, 2); k >= 0 {
		v.W = x[k].W
	}
	if k := nearestOf(l, x, i, "", 2); k >= 0 {
		v.H = x[k].H
	}
	return fix.Hold(v.W), fix.Hold(v.H)
}

// someList is a list of n nodes that looks like chance, a tree or none.
func someList(c *chance, n int) []api.Node {
	var l []api.Node
	for i := range n {
		one := api.Node{Parent: oneOf(c, i-1, i-1, i-1, 0, 1, c.below(i+1), oneOf(c, -1, i, n, least, most))}
		if c.below(8) > 0 {
			one.Tag = "a"
		}
		l = append(l, one)
	}
	return l
}

// someExtents are at most n that look like chance.
func someExtents(c *chance, n int) []api.Extent {
	var x []api.Extent
	for range oneOf(c, n, n, n+2, c.below(n+1)) {
		x = append(x, api.Extent{Type: oneOf(c, 0, 1, 1, 2, 2, oneOf(c, 3, -1, 1<<32+1, least, most)), Name: oneOf(c, "", "", "a", "b"), W: someLength(c), H: someLength(c)})
	}
	return x
}

// someLength is one at which something may change.
func someLength(c *chance) int {
	return oneOf(c, least, -api.MaxLen-1, -64, 0, 1, 300*64, 400*64, c.below(1000*64), c.below(1000*64), api.MaxLen, api.MaxLen+1, most)
}

// texts are those of a few queries.
func texts() []string {
	return []string{"(width)", "a (width)", "b (width > 300px)", "(height)", "a (height < 400px)", "(orientation: portrait)", "not (width > 300px)", "b not (height)", "(width: 0) or (height: 0)", "c (width)"}
}

// someQuery is one that looks like chance, right or not.
func someQuery(t *testing.T, c *chance) api.Query {
	q := asked(t, oneOf(c, texts()...))
	if c.below(8) == 0 {
		q.Nodes = nil
	}
	return q
}

// TestExamples: the chapter's own, and the document's of queries that are unknown.
func TestExamples(t *testing.T) {
	l := page(t, "a{b{c}}")
	x := []api.Extent{extent(api.SizeBox, "", 400, 300), extent(api.InlineBox, "", 200, 0), {}}
	if got := holder.Nearest(l, x, 2, ""); got != 1 {
		t.Errorf("c's nearest holder is %d", got)
	}
	if w, h := holder.Bases(l, x, 2, api.View{W: 1, H: 2}); w != 200*64 || h != 300*64 {
		t.Errorf("c's bases are %d and %d", w, h)
	}
	x = []api.Extent{extent(api.InlineBox, "", 10, 0)}
	for s, want := range map[string]int{"(width > 9px)": api.True, "(width > 10px)": api.False, "(height > 9px)": api.Unknown} {
		if got := holder.Truth(l, x, 2, asked(t, s)); got != want {
			t.Errorf("%q is %d", s, got)
		}
	}
}

// TestNearest: P15.1.
func TestNearest(t *testing.T) {
	//             0  1  2   3  4  5   6
	l := page(t, `a{b{c{"w" d} e{f}}}`)
	x := []api.Extent{extent(2, "x", 1, 1), extent(1, "y", 1, 1), extent(2, "", 1, 1), extent(2, "x", 1, 1), extent(2, "x", 1, 1), extent(0, "x", 1, 1), extent(1, "x", 1, 1), extent(1, "x", 1, 1)}
	for name, want := range map[string][]int{
		// Nobody holds itself, nor does who stands beside, or is no container, be it called as it may.
		"":  {-1, 0, 1, 2, 2, 1, 1},
		"x": {-1, 0, 0, 0, 0, 0, 0},
		"y": {-1, -1, 1, 1, 1, 1, 1},
		"z": {-1, -1, -1, -1, -1, -1, -1},
		"X": {-1, -1, -1, -1, -1, -1, -1},
	} {
		for i, k := range want {
			if got := holder.Nearest(l, x, i, name); got != k {
				t.Errorf("%q: %d's is %d, not %d", name, i, got, k)
			}
		}
	}
	// Of no node, and of who stands alone.
	for _, i := range []int{least, -2, -1, 7, 8, 1 << 32, most} {
		for _, name := range []string{"", "x"} {
			if got := holder.Nearest(l, x, i, name); got != -1 {
				t.Errorf("%q: %d's is %d", name, i, got)
			}
			if got := holder.Nearest(nil, x, i, name); got != -1 {
				t.Errorf("%q: of none %d's is %d", name, i, got)
			}
		}
	}
	// A node beyond the end of the extents holds nobody.
	for n, want := range []int{-1, 0, 1, 2, 2} {
		if got := holder.Nearest(l, x[:n], 4, ""); got != want {
			t.Errorf("of %d extents it is %d, not %d", n, got, want)
		}
	}
	// Only these two are containers.
	for kind, want := range map[int]int{least: -1, -1: -1, 0: -1, 1: 0, 2: 0, 3: -1, 1<<32 + 1: -1, most: -1} {
		if got := holder.Nearest(l, []api.Extent{{Type: kind, Name: "a"}}, 1, "a"); got != want {
			t.Errorf("Type %d: %d", kind, got)
		}
	}
}

// TestTruth: P15.1: who is asked, and what is answered.
func TestTruth(t *testing.T) {
	l := page(t, "a{b{c d}}")
	x := []api.Extent{extent(api.SizeBox, "x", 400, 300), extent(api.InlineBox, "y", 200, 900), extent(api.SizeBox, "", 1, 1)}
	for s, want := range map[string][]int{
		"(width: 400px)": {2, 1, 0, 0}, "x (width: 400px)": {2, 1, 1, 1}, "y (width: 200px)": {2, 2, 1, 1}, "z (width)": {2, 2, 2, 2}, "z not (width)": {2, 2, 2, 2},
		// Asked is the nearest one, even where it does not know.
		"(height)": {2, 1, 2, 2}, "x (height)": {2, 1, 1, 1}, "y (height)": {2, 2, 2, 2}, "y (height) or (width)": {2, 2, 1, 1}, "x not (orientation: portrait)": {2, 1, 1, 1},
	} {
		for i, a := range want {
			if got := holder.Truth(l, x, i, asked(t, s)); got != a {
				t.Errorf("%q of %d: %d, not %d", s, i, got, a)
			}
		}
		for _, i := range []int{least, -1, 4, most} {
			if got := holder.Truth(l, x, i, asked(t, s)); got != api.Unknown {
				t.Errorf("%q of %d: %d", s, i, got)
			}
		}
		if got := holder.Truth(l, nil, 2, asked(t, s)); got != api.Unknown {
			t.Errorf("%q without extents: %d", s, got)
		}
	}
	for _, q := range []api.Query{{}, {Name: "x"}, {Name: "and", Nodes: asked(t, "(width)").Nodes}} {
		if got := holder.Truth(l, []api.Extent{extent(2, "and", 1, 1), extent(2, "x", 1, 1)}, 2, q); got != api.Unknown {
			t.Errorf("%v, which is not right: %d", q, got)
		}
	}
}

// TestAll: P15.1.
func TestAll(t *testing.T) {
	l := page(t, "a{b{c}}")
	x := []api.Extent{extent(api.SizeBox, "x", 400, 300), extent(api.InlineBox, "", 200, 0)}
	yes, no, unknown := asked(t, "x (width: 400px)"), asked(t, "(width: 400px)"), asked(t, "(height)")
	for _, c := range []struct {
		q    []api.Query
		want bool
	}{
		{nil, true}, {[]api.Query{}, true}, {[]api.Query{yes}, true}, {[]api.Query{no}, false}, {[]api.Query{unknown}, false}, {[]api.Query{yes, yes, yes, yes, yes}, true}, {[]api.Query{yes, no}, false}, {[]api.Query{no, yes}, false}, {[]api.Query{yes, unknown, yes}, false}, {[]api.Query{unknown, yes}, false}, {[]api.Query{yes, {}}, false},
	} {
		if got := holder.All(l, x, 2, c.q); got != c.want {
			t.Errorf("%v: %t", c.q, got)
		}
	}
	// Of no node nothing is known, but of no queries none is not True.
	for _, i := range []int{least, -1, 3, most} {
		if !holder.All(l, x, i, nil) || holder.All(l, x, i, []api.Query{yes}) {
			t.Errorf("of node %d", i)
		}
	}
}

// TestBases: P15.2.
func TestBases(t *testing.T) {
	l := page(t, "a{b{c{d}} e}")
	v := api.View{W: 10, H: 20}
	x := []api.Extent{{Type: api.SizeBox, Name: "x", W: 1, H: 2}, {Type: api.InlineBox, W: 3, H: 4}, {Type: api.Normal, W: 5, H: 6}, {Type: api.SizeBox, W: 7, H: 8}, {Type: api.SizeBox, W: 9, H: 9}}
	for i, want := range [][2]int{{10, 20}, {1, 2}, {3, 2}, {3, 2}, {1, 2}} {
		if w, h := holder.Bases(l, x, i, v); w != want[0] || h != want[1] {
			t.Errorf("%d's are %d and %d, not %v", i, w, h, want)
		}
	}
	x[0].Type = api.InlineBox
	if w, h := holder.Bases(l, x, 3, v); w != 3 || h != 20 {
		t.Errorf("down the page nobody holds it: %d, %d", w, h)
	}
	x[0].Type, x[1].Type = api.InlineBox, api.SizeBox
	if w, h := holder.Bases(l, x, 3, v); w != 3 || h != 4 {
		t.Errorf("the nearest one is SizeBox: %d, %d", w, h)
	}
	// Of no node they are the window's.
	for _, i := range []int{least, -1, 5, 6, most} {
		if w, h := holder.Bases(l, x, i, v); w != 10 || h != 20 {
			t.Errorf("node %d's are %d and %d", i, w, h)
		}
	}
	// All are held.
	for n, want := range map[int]int{least: -api.MaxLen, -api.MaxLen - 1: -api.MaxLen, -api.MaxLen: -api.MaxLen, -1: -1, 0: 0, api.MaxLen: api.MaxLen, api.MaxLen + 1: api.MaxLen, most: api.MaxLen} {
		if w, h := holder.Bases(l, nil, 1, api.View{W: n, H: n}); w != want || h != want {
			t.Errorf("a window of %d: %d, %d", n, w, h)
		}
		if w, h := holder.Bases(l, nil, -1, api.View{W: n, H: n}); w != want || h != want {
			t.Errorf("of no node a window of %d: %d, %d", n, w, h)
		}
		if w, h := holder.Bases(l, []api.Extent{{Type: api.SizeBox, W: n, H: n}}, 1, v); w != want || h != want {
			t.Errorf("an extent of %d: %d, %d", n, w, h)
		}
	}
}

// TestMeasure: P15.3.
func TestMeasure(t *testing.T) {
	const font, w, h = 16 * 64, 400 * 64, 300*64 + 1
	for _, c := range []struct{ n, unit, want int }{
		{1000, api.Px, 64}, {1500, api.Px, 96}, {-1500, api.Px, -96}, {15, api.Px, 0}, {16, api.Px, 1}, {-1, api.Px, -1}, {0, api.Px, 0}, {most, api.Px, fix.Px(api.MaxNum)}, {least, api.Px, fix.Px(-api.MaxNum)},
		{1000, api.Em, font}, {1500, api.Em, 24 * 64}, {-1, api.Em, -2}, {1, api.Em, 1}, {0, api.Em, 0}, {most, api.Em, api.MaxLen}, {least, api.Em, -api.MaxLen},
		{100000, api.Cqw, w}, {1000, api.Cqw, 4 * 64}, {100000, api.Cqi, w}, {1, api.Cqi, 0}, {-1, api.Cqi, -1}, {most, api.Cqw, fix.Percent(w, api.MaxNum)},
		{100000, api.Cqh, h}, {100000, api.Cqb, h}, {50000, api.Cqb, 150 * 64}, {-50000, api.Cqh, -150*64 - 1},
		{100000, api.Cqmin, h}, {100000, api.Cqmax, w}, {25000, api.Cqmin, 75 * 64}, {25000, api.Cqmax, 100 * 64},
		{1000, 0, 0}, {1000, 9, 0}, {1000, -1, 0}, {1000, least, 0}, {1000, most, 0}, {1000, 1<<32 + 1, 0},
	} {
		v := api.Value{Kind: api.Length, N: c.n, D: c.unit}
		if got := holder.Measure(v, font, w, h); got != c.want {
			t.Errorf("%v: %d, not %d", v, got, c.want)
		}
		// It need not be right.
		v.Name = "x"
		if got := holder.Measure(v, font, w, h); got != c.want {
			t.Errorf("%v: %d, not %d", v, got, c.want)
		}
		for _, kind := range []int{least, -1, 0, api.Word, api.Percent, api.Number, api.Ratio, api.Name, 7, 1<<32 + 2, most} {
			v.Kind = kind
			if got := holder.Measure(v, font, w, h); got != 0 {
				t.Errorf("%v is no Length: %d", v, got)
			}
		}
	}
	// The lesser one and the greater one, whichever they are, and what they are measured by is held.
	ends := []int{least, -api.MaxLen - 1, -api.MaxLen, -7, 0, 9, api.MaxLen, api.MaxLen + 1, most}
	for _, w := range ends {
		for _, h := range ends {
			for _, n := range []int{-100000, 1, 50000, 100000, 100001, most} {
				of := func(unit int) int { return holder.Measure(api.Value{Kind: api.Length, N: n, D: unit}, w, w, h) }
				a, b := fix.Hold(w), fix.Hold(h)
				for unit, want := range map[int]int{api.Em: fix.Part(a, n, 1000), api.Cqw: fix.Percent(a, n), api.Cqi: fix.Percent(a, n), api.Cqh: fix.Percent(b, n), api.Cqb: fix.Percent(b, n), api.Cqmin: fix.Percent(min(a, b), n), api.Cqmax: fix.Percent(max(a, b), n)} {
					if got := of(unit); got != want {
						t.Errorf("%d of unit %d, of %d and %d: %d, not %d", n, unit, w, h, got, want)
					}
				}
			}
		}
	}
}

// trees hands over the Parents of all trees of n elements.
func trees(n int, take func(l []api.Node)) {
	var more func(l []api.Node)
	more = func(l []api.Node) {
		if len(l) == n {
			take(l)
			return
		}
		for up := len(l) - 1; up >= 0; up = l[up].Parent {
			more(append(l[:len(l):len(l)], api.Node{Parent: up, Tag: "a"}))
		}
	}
	more([]api.Node{{Parent: -1, Tag: "a"}})
}

// reckoned fails if what is answered of a list is not as the chapter's words say; it tells how many holders are found.
func reckoned(t *testing.T, l []api.Node, x []api.Extent, v api.View, q []api.Query) int {
	t.Helper()
	found := 0
	for i := -1; i <= len(l); i++ {
		all := true
		for _, one := range q {
			k := nearestOf(l, x, i, one.Name, 1, 2)
			if got := holder.Nearest(l, x, i, one.Name); got != k {
				t.Fatalf("%q: %d's of %v, %v is %d, not %d", one.Name, i, l, x, got, k)
			}
			want := api.Unknown
			if k >= 0 {
				want = truth.Eval(one, x[k])
				found++
			}
			if got := holder.Truth(l, x, i, one); got != want {
				t.Fatalf("%v of %d of %v, %v: %d, not %d", one, i, l, x, got, want)
			}
			all = all && want == api.True
		}
		if got := holder.All(l, x, i, q); got != all {
			t.Fatalf("%v of %d of %v, %v: %t", q, i, l, x, got)
		}
		wantW, wantH := basesOf(l, x, i, v)
		if w, h := holder.Bases(l, x, i, v); w != wantW || h != wantH {
			t.Fatalf("%d's bases of %v, %v: %d, %d, not %d, %d", i, l, x, w, h, wantW, wantH)
		}
	}
	return found
}

// TestReckonedTrees: P15.1, P15.2 of all small trees with all kinds of extents.
func TestReckonedTrees(t *testing.T) {
	q := []api.Query{asked(t, "(width)"), asked(t, "a (height)")}
	some := []api.Extent{{}, {Name: "a"}, {Type: 1}, {Type: 1, Name: "a"}, {Type: 2}, {Type: 2, Name: "a"}}
	for n := 1; n <= 4; n++ {
		trees(n, func(l []api.Node) {
			x := make([]api.Extent, n)
			for number := range int(math.Pow(6, float64(n))) {
				for k := range x {
					x[k] = some[number%6]
					x[k].W, x[k].H = 2*k, 2*k+1
					number /= 6
				}
				reckoned(t, l, x, api.View{W: 100, H: 101}, q)
			}
		})
	}
}

// TestReckonedLists: P15.1, P15.2 of many lists, most of them no trees, with extents that are too few or too many.
func TestReckonedLists(t *testing.T) {
	c := chance(3)
	found := 0
	for range 10000 {
		n := 1 + c.below(9)
		q := []api.Query{someQuery(t, &c), someQuery(t, &c)}
		found += reckoned(t, someList(&c, n), someExtents(&c, n), api.View{W: someLength(&c), H: someLength(&c)}, q[:c.below(3)])
	}
	if found < 10000 {
		t.Errorf("%d holders", found)
	}
}

// TestOthers: P15.4: who stands neither above an element nor is asked changes nothing.
func TestOthers(t *testing.T) {
	c := chance(5)
	for range 5000 {
		n := 2 + c.below(8)
		l, v := someList(&c, n), api.View{W: someLength(&c), H: someLength(&c)}
		x, y := someExtents(&c, n), someExtents(&c, n)
		for len(x) < n {
			x = append(x, api.Extent{})
		}
		for len(y) < n {
			y = append(y, api.Extent{})
		}
		i, q := c.below(n), someQuery(t, &c)
		asked := holder.Nearest(l, x, i, q.Name)
		for k := range l {
			if isBeneath(l, i, k) {
				y[k] = x[k]
				// What stands above and is not asked may be as large as it likes.
				if k != asked {
					y[k].W, y[k].H = someLength(&c), someLength(&c)
				}
			}
		}
		if a, b := holder.Nearest(l, y, i, q.Name), holder.Truth(l, y, i, q); a != asked || b != holder.Truth(l, x, i, q) {
			t.Fatalf("%v of %d of %v: %v, %v: %d, %d", q, i, l, x, y, a, b)
		}
		for k := range l {
			if isBeneath(l, i, k) {
				y[k] = x[k]
			}
		}
		w, h := holder.Bases(l, x, i, v)
		if a, b := holder.Bases(l, y, i, v); a != w || b != h || holder.All(l, x, i, []api.Query{q, q}) != holder.All(l, y, i, []api.Query{q, q}) {
			t.Fatalf("%d of %v: %v, %v: %d, %d, not %d, %d", i, l, x, y, a, b, w, h)
		}
	}
}

// TestNamed: P15.5: the nearest holder of a name is the nearest one, or stands above it.
func TestNamed(t *testing.T) {
	c := chance(7)
	above := 0
	for range 5000 {
		n := 2 + c.below(9)
		l, x := someList(&c, n), someExtents(&c, n)
		for i := range l {
			k, any := holder.Nearest(l, x, i, "a"), holder.Nearest(l, x, i, "")
			if k == -1 || k == any {
				continue
			}
			if any < 0 || !isBeneath(l, any, k) {
				t.Fatalf("%d's of %v, %v: %d, %d", i, l, x, k, any)
			}
			above++
		}
	}
	if above < 1000 {
		t.Errorf("%d stand above", above)
	}
}

// TestSilent: what is handed in stays as it is.
func TestSilent(t *testing.T) {
	c := chance(9)
	for range 500 {
		l, x, q := someList(&c, 6), someExtents(&c, 6), []api.Query{someQuery(t, &c), someQuery(t, &c)}
		parents := func() []int {
			var p []int
			for _, n := range l {
				p = append(p, n.Parent)
			}
			return p
		}
		wasX, wasParents := slices.Clone(x), parents()
		was := []api.Query{{Name: q[0].Name, Nodes: slices.Clone(q[0].Nodes)}, {Name: q[1].Name, Nodes: slices.Clone(q[1].Nodes)}}
		for i := range l {
			holder.Nearest(l, x, i, "a")
			holder.Truth(l, x, i, q[0])
			holder.All(l, x, i, q)
			holder.Bases(l, x, i, api.View{})
		}
		if !slices.Equal(x, wasX) || !slices.Equal(parents(), wasParents) || !slices.EqualFunc(q, was, query.Same) {
			t.Fatalf("%v was %v, %v was %v", x, wasX, q, was)
		}
	}
}

// TestAnything: P1: every call ends and none panics, whatever it is given.
func TestAnything(t *testing.T) {
	c := chance(11)
	odd := []int{least, least + 1, -1, 0, 1, 2, 3, 8, 9, 1 << 30, 1 << 32, most}
	for range 20000 {
		n := c.below(6)
		l, x := someList(&c, n), someExtents(&c, n+1)
		i, v := oneOf(&c, append(odd, c.below(6))...), api.View{W: oneOf(&c, odd...), H: oneOf(&c, odd...)}
		q := api.Query{Name: oneOf(&c, "", "a", "not", "\x00"), Nodes: []api.QNode{{Kind: oneOf(&c, odd...), Count: oneOf(&c, odd...), Feature: oneOf(&c, odd...)}}}
		if k := holder.Nearest(l, x, i, q.Name); k < -1 || k >= max(i, 0) {
			t.Fatalf("%d's of %v, %v: %d", i, l, x, k)
		}
		if a := holder.Truth(l, x, i, q); a < api.False || a > api.Unknown {
			t.Fatalf("%v: %d", q, a)
		}
		holder.All(l, x, i, []api.Query{q})
		w, h := holder.Bases(l, x, i, v)
		m := holder.Measure(api.Value{Kind: oneOf(&c, odd...), N: oneOf(&c, odd...), D: oneOf(&c, odd...)}, oneOf(&c, odd...), oneOf(&c, odd...), oneOf(&c, odd...))
		if w != fix.Hold(w) || h != fix.Hold(h) || m != fix.Hold(m) {
			t.Fatalf("%d, %d, %d", w, h, m)
		}
	}
	// However many of them.
	var chain []api.Node
	for i := range 1 << 16 {
		chain = append(chain, api.Node{Parent: i - 1, Tag: "a"})
	}
	x := make([]api.Extent, 1<<16)
	x[0] = extent(api.InlineBox, "a", 1, 1)
	if got := holder.Nearest(chain, x, 1<<16-1, "a"); got != 0 {
		t.Errorf("%d stands farthest above", got)
	}
	holder.All(chain, x, 1<<16-1, slices.Repeat([]api.Query{asked(t, "(width)")}, 1<<8))
}
