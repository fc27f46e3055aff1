package query_test

import (
	"math"
	"slices"
	"strings"
	"testing"

	"wainscot/api"
	"wainscot/lex"
	"wainscot/query"
	"wainscot/tree"
)

const (
	least = math.MinInt
	most  = math.MaxInt
)

// chance hands out numbers that look like chance, the same ones in every run.
type chance uint64

func (c *chance) below(n int) int {
	*c = *c*6364136223846793005 + 1442695040888963407
	return int(uint64(*c)>>33) % n
}

// oneOf is one of some.
func oneOf[T any](c *chance, l ...T) T {
	return l[c.below(len(l))]
}

// cut answers a text's tokens.
func cut(t *testing.T, s string) []api.Token {
	t.Helper()
	l, e := lex.Lex(s)
	if e != api.OK {
		t.Fatalf("%q: %d", s, e)
	}
	return l
}

// The makers of nodes and queries.

func feature(f int) api.QNode         { return api.QNode{Kind: api.Feature, Feature: f} }
func node(kind, count int) api.QNode  { return api.QNode{Kind: kind, Count: count} }
func of(nodes ...api.QNode) api.Query { return api.Query{Nodes: nodes} }
func bound(op, n, d int) api.Bound    { return api.Bound{Op: op, N: n, D: d} }
func ask(f int, b ...api.Bound) api.QNode {
	n := feature(f)
	n.Hi = b[len(b)-1]
	if len(b) == 2 {
		n.Lo = b[0]
	}
	return n
}

// lengths are the features that are held against lengths.
func lengths() []int {
	return []int{api.Width, api.Height, api.InlineSize, api.BlockSize}
}

// pairs are the Ops of two bounds that go one way.
func pairs() [][2]int {
	return [][2]int{{1, 1}, {1, 2}, {2, 1}, {2, 2}, {4, 4}, {4, 5}, {5, 4}, {5, 5}}
}

// someFeature is a right feature that looks like chance.
func someFeature(c *chance) api.QNode {
	f := 1 + c.below(api.Orientation)
	if c.below(4) == 0 {
		return feature(f)
	}
	if f == api.Orientation {
		return ask(f, bound(api.Equals, 1+c.below(2), 0))
	}
	value := func(op int) api.Bound {
		if f == api.AspectRatio {
			return bound(op, oneOf(c, 1, 1000, 16000, api.MaxNum), oneOf(c, 1, 999, 9000, api.MaxNum))
		}
		return bound(op, oneOf(c, 0, 1, -1, 400000, 1500, -20, api.MaxLen, -api.MaxLen), 0)
	}
	if c.below(2) == 0 {
		return ask(f, value(1+c.below(5)))
	}
	p := oneOf(c, pairs()...)
	return ask(f, value(p[0]), value(p[1]))
}

// someNodes is a right tree of at most n nodes that looks like chance.
func someNodes(c *chance, n int) []api.QNode {
	switch c.below(5) {
	case 0:
		if n >= 2 {
			return append([]api.QNode{node(api.Not, 1)}, someNodes(c, n-1)...)
		}
	case 1, 2:
		if n >= 3 {
			count := 2 + c.below(n-2)
			if count > 4 && c.below(4) > 0 {
				count = 2
			}
			l := []api.QNode{node(oneOf(c, api.And, api.Or), count)}
			for i := range count {
				l = append(l, someNodes(c, n-len(l)-(count-1-i))...)
			}
			return l
		}
	}
	return []api.QNode{someFeature(c)}
}

// someQuery is a right query that looks like chance.
func someQuery(c *chance) api.Query {
	names := []string{"", "", "a", "card", "width", "And", "--", "px", "\x80", "min-width", strings.Repeat("n", api.MaxName)}
	return api.Query{Name: oneOf(c, names...), Nodes: someNodes(c, oneOf(c, 1, 3, 6, api.MaxQuery))}
}

// spanOf is Span by the chapter's words.
func spanOf(l []api.QNode, i int) int {
	if i < 0 || i >= len(l) {
		return 0
	}
	kids := 0
	switch l[i].Kind {
	case api.And, api.Or:
		kids = l[i].Count
	case api.Not:
		kids = 1
	case api.Feature:
	default:
		return 0
	}
	i++
	for ; kids > 0; kids-- {
		if i = spanOf(l, i); i == 0 {
			return 0
		}
	}
	return i
}

// TestSpan: P8.1.
func TestSpan(t *testing.T) {
	f := feature(api.Width)
	card := []api.QNode{node(api.And, 2), f, node(api.Not, 1), f}
	for _, c := range []struct {
		l       []api.QNode
		i, want int
	}{
		{card, 0, 4}, {card, 1, 2}, {card, 2, 4}, {card, 3, 4}, {card, 4, 0}, {card, -1, 0}, {card, least, 0}, {card, most, 0}, {nil, 0, 0}, {nil, 1, 0}, {nil, -1, 0},
		// Not all there.
		{card[:3], 0, 0}, {card[:3], 1, 2}, {card[:3], 2, 0}, {card[:1], 0, 0}, {[]api.QNode{node(api.And, 3), f, f}, 0, 0},
		// More than it stands for.
		{[]api.QNode{f, f}, 0, 1}, {[]api.QNode{node(api.Or, 2), f, f, f}, 0, 3}, {[]api.QNode{node(api.Not, 1), f, f}, 0, 2},
		// Counts count of And and Or alone.
		{[]api.QNode{node(api.And, 0)}, 0, 1}, {[]api.QNode{node(api.And, -1)}, 0, 1}, {[]api.QNode{node(api.Or, least), f}, 0, 1}, {[]api.QNode{node(api.And, 1), f}, 0, 2}, {[]api.QNode{node(api.Not, 5), f, f}, 0, 2}, {[]api.QNode{node(api.Not, -5), f, f}, 0, 2}, {[]api.QNode{node(api.Feature, 7), f}, 0, 1},
		// However many.
		{[]api.QNode{node(api.And, most), f}, 0, 0}, {[]api.QNode{node(api.And, 2), node(api.And, most), f}, 0, 0}, {[]api.QNode{node(api.And, most), node(api.And, most), f}, 0, 0}, {[]api.QNode{node(api.Or, 3), node(api.Or, most), node(api.Or, most), f, f}, 0, 0}, {[]api.QNode{node(api.And, most-1), node(api.Or, most/2), f}, 1, 0},
		// Kinds that there are not.
		{[]api.QNode{{}}, 0, 0}, {[]api.QNode{node(5, 0)}, 0, 0}, {[]api.QNode{node(-1, 0)}, 0, 0}, {[]api.QNode{node(api.And, 2), f, node(5, 0)}, 0, 0}, {[]api.QNode{node(api.And, 2), f, node(5, 0)}, 1, 2}, {[]api.QNode{f, node(5, 0)}, 0, 1}, {[]api.QNode{node(1<<32+1, 0)}, 0, 0},
		// The rest of a node does not count.
		{[]api.QNode{{Kind: api.Not, Feature: 9, Lo: bound(9, 9, 9)}, {Kind: api.Feature, Feature: -1, Hi: bound(9, 9, 9)}}, 0, 2},
	} {
		if got := query.Span(of(c.l...), c.i); got != c.want {
			t.Errorf("%v at %d: %d, not %d", c.l, c.i, got, c.want)
		}
	}
	c := chance(3)
	for range 20000 {
		var l []api.QNode
		for range c.below(9) {
			l = append(l, node(oneOf(&c, 1, 2, 3, 3, 4, 4, 4, 4, 4, 4, 4, 5), oneOf(&c, 0, 1, 2, 2, 3, -1)))
		}
		for i := range len(l) + 2 {
			if got, want := query.Span(of(l...), i), spanOf(l, i); got != want {
				t.Fatalf("%v at %d: %d, not %d", l, i, got, want)
			}
		}
	}
}

// TestRightNames: P8.1.
func TestRightNames(t *testing.T) {
	long := strings.Repeat("a", api.MaxName)
	for name, want := range map[string]bool{
		"": true, "a": true, "card": true, "width": true, "And": true, "NOT": true, "nots": true, "-a": true, "--": true, "\xff": true, long: true, "portrait": true,
		"and": false, "or": false, "not": false, "none": false, "1": false, "-": false, " ": false, "a b": false, "(": false, long + "a": false, "a\x00": false,
	} {
		if got := query.Right(api.Query{Name: name, Nodes: []api.QNode{feature(api.Width)}}); got != want {
			t.Errorf("%q: %t", name, got)
		}
	}
}

// TestRightShapes: P8.1: the nodes, and who has whom.
func TestRightShapes(t *testing.T) {
	f := feature(api.Height)
	for _, c := range []struct {
		l    []api.QNode
		want bool
	}{
		{nil, false}, {[]api.QNode{}, false}, {[]api.QNode{f}, true}, {[]api.QNode{f, f}, false}, {[]api.QNode{{}}, false}, {[]api.QNode{node(5, 0)}, false},
		{[]api.QNode{node(api.Not, 1), f}, true}, {[]api.QNode{node(api.Not, 1)}, false}, {[]api.QNode{node(api.Not, 1), f, f}, false}, {[]api.QNode{node(api.Not, 0), f}, false}, {[]api.QNode{node(api.Not, 2), f}, false}, {[]api.QNode{node(api.Not, 2), f, f}, false}, {[]api.QNode{node(api.Not, 1), node(api.Not, 1), f}, true},
		{[]api.QNode{node(api.And, 2), f, f}, true}, {[]api.QNode{node(api.Or, 2), f, f}, true}, {[]api.QNode{node(api.And, 3), f, f, f}, true}, {[]api.QNode{node(api.And, 2), f}, false}, {[]api.QNode{node(api.Or, 2), f, f, f}, false}, {[]api.QNode{node(api.And, 1), f}, false}, {[]api.QNode{node(api.Or, 1), f}, false}, {[]api.QNode{node(api.And, 0)}, false}, {[]api.QNode{node(api.Or, -1)}, false}, {[]api.QNode{node(api.And, most), f, f}, false},
		{[]api.QNode{node(api.Feature, 1)}, false}, {[]api.QNode{{Kind: api.Feature, Count: 1, Feature: 1}}, false}, {[]api.QNode{{Kind: api.Feature, Count: -1, Feature: 1}}, false},
		{[]api.QNode{node(api.And, 2), node(api.Or, 2), f, f, node(api.Not, 1), f}, true}, {[]api.QNode{node(api.And, 2), node(api.Or, 1), f, f}, false}, {[]api.QNode{node(api.And, 2), f, node(api.Or, 0)}, false}, {[]api.QNode{f, node(api.Not, 1), f}, false},
		{append([]api.QNode{node(api.And, 31)}, slices.Repeat([]api.QNode{f}, 31)...), true}, {append([]api.QNode{node(api.And, 32)}, slices.Repeat([]api.QNode{f}, 32)...), false}, {append(slices.Repeat([]api.QNode{node(api.Not, 1)}, 31), f), true}, {append(slices.Repeat([]api.QNode{node(api.Not, 1)}, 32), f), false},
	} {
		if got := query.Right(of(c.l...)); got != c.want {
			t.Errorf("%v: %t", c.l, got)
		}
	}
	// And, Or and Not have no feature of their own.
	for _, kind := range []int{api.And, api.Or, api.Not} {
		for _, n := range []api.QNode{{Feature: 1}, {Feature: -1}, {Lo: bound(1, 0, 0)}, {Lo: bound(0, 1, 0)}, {Hi: bound(0, 0, 1)}, {Hi: bound(3, 5, 0)}} {
			n.Kind, n.Count = kind, 2
			l := []api.QNode{n, f, f}
			if kind == api.Not {
				l[0].Count, l = 1, l[:2]
			}
			if query.Right(of(l...)) {
				t.Errorf("%v is right", l)
			}
		}
	}
}

// fitting tells by the chapter's words whether bounds fit a feature.
func fitting(f int, lo, hi api.Bound) bool {
	var none api.Bound
	value := func(b api.Bound) bool {
		if f == api.AspectRatio {
			return b.N >= 1 && b.N <= 1<<30 && b.D >= 1 && b.D <= 1<<30
		}
		return b.N >= -1<<30 && b.N <= 1<<30 && b.D == 0
	}
	if f == api.Orientation {
		return lo == none && slices.Contains([]api.Bound{none, bound(3, 1, 0), bound(3, 2, 0)}, hi)
	}
	if f < 1 || f > 5 {
		return false
	}
	if lo == none {
		return hi == none || hi.Op >= 1 && hi.Op <= 5 && value(hi)
	}
	return slices.Contains(pairs(), [2]int{lo.Op, hi.Op}) && value(lo) && value(hi)
}

// TestRightBounds: P8.1: which bounds fit.
func TestRightBounds(t *testing.T) {
	var bounds []api.Bound
	for _, op := range []int{-1, 0, 1, 2, 3, 4, 5, 6} {
		for _, n := range []int{-1<<30 - 1, -1 << 30, 0, 1, 2, 3, 1 << 30, 1<<30 + 1} {
			for _, d := range []int{-1, 0, 1, 1 << 30, 1<<30 + 1} {
				bounds = append(bounds, bound(op, n, d))
			}
		}
	}
	bounds = append(bounds, bound(least, 0, 0), bound(most, 1, 1), bound(3, least, 0), bound(3, most, 0), bound(3, 1, most), bound(3, 1, least), bound(1<<32+3, 1, 0))
	right := 0
	for _, f := range []int{least, -1, 0, 1, 2, 3, 4, 5, 6, 7, most} {
		for _, lo := range bounds {
			for _, hi := range bounds {
				n := api.QNode{Kind: api.Feature, Feature: f, Lo: lo, Hi: hi}
				want := fitting(f, lo, hi)
				if got := query.Right(of(n)); got != want {
					t.Fatalf("%v: %t", n, got)
				}
				if want {
					right++
				}
			}
		}
	}
	if right < 1000 {
		t.Errorf("only %d are right", right)
	}
	// Wherever the feature stands.
	for i := range 3 {
		q := of(node(api.And, 2), feature(1), node(api.Not, 1), feature(2))
		at := []int{1, 3, 3}[i]
		q.Nodes[at].Hi = bound(6, 0, 0)
		if query.Right(q) {
			t.Errorf("%v is right", q)
		}
	}
}

// TestSame: P8.1.
func TestSame(t *testing.T) {
	full := func() api.Query {
		return api.Query{Name: "a", Nodes: []api.QNode{node(api.And, 2), ask(1, bound(1, 2, 0), bound(2, 3, 0)), ask(5, bound(3, 4, 5))}}
	}
	if !query.Same(full(), full()) {
		t.Error("the same are not")
	}
	for i, change := range []func(q *api.Query){
		func(q *api.Query) { q.Name = "" }, func(q *api.Query) { q.Name = "A" }, func(q *api.Query) { q.Nodes = nil }, func(q *api.Query) { q.Nodes = q.Nodes[:2] }, func(q *api.Query) { q.Nodes = append(q.Nodes, feature(1)) },
		func(q *api.Query) { q.Nodes[0].Kind = api.Or }, func(q *api.Query) { q.Nodes[0].Count = 3 }, func(q *api.Query) { q.Nodes[1].Feature = 2 }, func(q *api.Query) { q.Nodes[1].Lo.Op = 2 }, func(q *api.Query) { q.Nodes[1].Lo.N = 1 }, func(q *api.Query) { q.Nodes[1].Lo.D = 1 },
		func(q *api.Query) { q.Nodes[2].Hi.Op = 2 }, func(q *api.Query) { q.Nodes[2].Hi.N = 1 }, func(q *api.Query) { q.Nodes[2].Hi.D = 1 }, func(q *api.Query) { q.Nodes[1], q.Nodes[2] = q.Nodes[2], q.Nodes[1] },
	} {
		changed := full()
		change(&changed)
		if query.Same(full(), changed) || query.Same(changed, full()) {
			t.Errorf("change %d: the same", i)
		}
	}
	if !query.Same(api.Query{}, api.Query{Nodes: []api.QNode{}}) || query.Same(api.Query{}, api.Query{Nodes: []api.QNode{{}}}) {
		t.Error("of nothing")
	}
}

// oddQuery is a query that looks like chance, most often one that is not right.
func oddQuery(c *chance) api.Query {
	q := someQuery(c)
	odd := func() int { return oneOf(c, least, -1, 0, 1, 2, 3, 4, 5, 6, 7, 1<<30+1, 1<<32, most) }
	for range c.below(3) {
		n := &q.Nodes[c.below(len(q.Nodes))]
		switch c.below(7) {
		case 0:
			n.Kind = odd()
		case 1:
			n.Count = odd()
		case 2:
			n.Feature = odd()
		case 3:
			n.Lo = bound(odd(), odd(), odd())
		case 4:
			n.Hi = bound(odd(), odd(), odd())
		case 5:
			q.Name = oneOf(c, "not", "none", "1", "\x00", "and")
		default:
			q.Nodes = slices.Repeat(q.Nodes, c.below(3))
			if len(q.Nodes) == 0 {
				return q
			}
		}
	}
	return q
}

// rightOf is Right by the chapter's words.
func rightOf(q api.Query) bool {
	ok := q.Name == "" || tree.Name(q.Name) && !slices.Contains([]string{"and", "or", "not", "none"}, q.Name)
	ok = ok && len(q.Nodes) >= 1 && len(q.Nodes) <= 32 && spanOf(q.Nodes, 0) == len(q.Nodes)
	for _, n := range q.Nodes {
		switch n.Kind {
		case api.And, api.Or:
			ok = ok && n.Count >= 2 && n == node(n.Kind, n.Count)
		case api.Not:
			ok = ok && n == node(api.Not, 1)
		default:
			ok = ok && n.Count == 0 && fitting(n.Feature, n.Lo, n.Hi)
		}
	}
	return ok
}

// TestRightReckoned: P8.1 of many queries.
func TestRightReckoned(t *testing.T) {
	c := chance(7)
	right := 0
	for range 20000 {
		q := oddQuery(&c)
		want := rightOf(q)
		if got := query.Right(q); got != want {
			t.Fatalf("%v: %t", q, got)
		}
		if want {
			right++
		}
	}
	if right < 2000 || right > 18000 {
		t.Errorf("%d are right", right)
	}
}

// TestAnything: P1: every call ends and none panics, whatever it is given.
func TestAnything(t *testing.T) {
	c := chance(9)
	var was api.Query
	for range 5000 {
		q := oddQuery(&c)
		query.Right(q)
		query.Same(q, was)
		query.Print(q)
		for _, i := range []int{least, -1, 0, 1, len(q.Nodes), most} {
			query.Span(q, i)
		}
		was = q
	}
	for _, n := range []api.QNode{{}, node(api.Not, 1), node(api.And, 1), node(api.And, 2), node(api.Or, most), node(api.And, least), feature(1)} {
		q := of(slices.Repeat([]api.QNode{n}, 1<<16)...)
		query.Right(q)
		query.Print(q)
		query.Span(q, 0)
	}
	odd := []int{least, least + 1, -1, 0, 21, 1 << 32, most}
	for range 20000 {
		var l []api.Token
		for range c.below(20) {
			kind := c.below(api.Space + 2)
			if c.below(8) == 0 {
				kind = oneOf(&c, odd...)
			}
			l = append(l, api.Token{Kind: kind, Text: oneOf(&c, "", "width", "not", "and", "px", "<", "=", "/", "portrait", "\x00\xff"), N: oneOf(&c, odd...)})
		}
		query.Parse(l)
	}
	// However many of one, and however deep.
	for _, k := range alphabet() {
		many := slices.Repeat([]api.Token{k}, 1<<16)
		query.Parse(many)
		query.Parse(slices.Concat(many, cut(t, "(width)"), many))
		query.Parse(slices.Concat(cut(t, "("), many, cut(t, "width)")))
	}
}
