package engine_test

import (
	"reflect"
	"slices"
	"testing"

	"wainscot/api"
	"wainscot/engine"
	"wainscot/markup"
	"wainscot/sheet"
	"wainscot/tree"
)

// TestAgain: P25.6: the same again is the same, whatever was done with what was told; what is handed in is neither changed nor kept.
func TestAgain(t *testing.T) {
	c := chance(9)
	for range 500 {
		at := c
		l, some, v := someTree(t, &c, 1+c.below(12)), someRules(t, &c, 10), someView(&c)
		wasL, wasRules := someTree(t, &at, 1+at.below(12)), someRules(t, &at, 10)
		first, was := run(t, l, some, v), run(t, wasL, wasRules, v)
		if !reflect.DeepEqual(first, was) {
			t.Fatalf("%+v, %+v, %+v: %+v and %+v", l, some, v, first, was)
		}
		if !reflect.DeepEqual(l, wasL) || !reflect.DeepEqual(some, wasRules) {
			t.Fatalf("%+v was %+v, %+v was %+v", l, wasL, some, wasRules)
		}
		for i := range first.Styles {
			first.Styles[i], first.Boxes[i] = api.Style{Order: 77}, api.Box{X: 77}
			for k := range first.Truths[i] {
				first.Truths[i][k] = 77
			}
		}
		clear(first.Events)
		if !reflect.DeepEqual(run(t, l, some, v), was) {
			t.Fatalf("%+v, %+v, %+v: other than %+v", l, some, v, was)
		}
	}
}

// TestForms: W1: trees and sheets that are written and read again come to the same.
func TestForms(t *testing.T) {
	c := chance(11)
	for range 1500 {
		l, v := someTree(t, &c, 1+c.below(12)), someView(&c)
		var some []api.Rule
		for _, r := range someRules(t, &c, 10) {
			if r.Origin == 1 {
				some = append(some, r)
			}
		}
		tree, e1 := markup.Print(l)
		text, e2 := sheet.Print(some)
		if e1 != api.OK || e2 != api.OK {
			t.Fatalf("%+v, %+v: %d, %d", l, some, e1, e2)
		}
		if got := run(t, page(t, tree), rules(t, text), v); !reflect.DeepEqual(got, run(t, l, some, v)) {
			t.Fatalf("%s, %s: other than %+v, %+v", tree, text, l, some)
		}
	}
}

// truthOf is a node's truth of an asking rule; of what has none False.
func truthOf(r api.Result, i, rule int) int {
	if rule >= len(r.Truths[i]) {
		return api.False
	}
	return r.Truths[i][rule]
}

// TestSilence: W2: rules whose queries are true for no element may be left out.
func TestSilence(t *testing.T) {
	c := chance(13)
	left := 0
	for range 3000 {
		l, some, v := someTree(t, &c, 1+c.below(12)), someRules(t, &c, 10), someView(&c)
		r := run(t, l, some, v)
		var less []api.Rule
		n := 0
		for _, rule := range some {
			speaks := len(rule.Conds) == 0
			for i := range l {
				speaks = speaks || truthOf(r, i, n) == api.True
			}
			if len(rule.Conds) > 0 {
				n++
			}
			if speaks {
				less = append(less, rule)
			} else {
				left++
			}
		}
		got := run(t, l, less, v)
		if !slices.Equal(got.Styles, r.Styles) || !slices.Equal(got.Boxes, r.Boxes) {
			t.Fatalf("%+v, %+v, %+v: other than with %+v", l, some, v, less)
		}
	}
	if left < 5000 {
		t.Errorf("%d are left out", left)
	}
}

// both is a query that two of one name are joined to by and.
func both(a, b api.Query) api.Query {
	nodes := append([]api.QNode{{Kind: api.And, Count: 2}}, a.Nodes...)
	return api.Query{Name: a.Name, Nodes: append(nodes, b.Nodes...)}
}

// TestJoining: W3: a rule within two queries of one name is the rule within both of them joined by and.
func TestJoining(t *testing.T) {
	c := chance(15)
	joins := 0
	for range 3000 {
		l, some, v := someTree(t, &c, 1+c.below(12)), someRules(t, &c, 10), someView(&c)
		together := slices.Clone(some)
		for i, r := range some {
			if len(r.Conds) < 2 {
				continue
			}
			q := slices.Clone(r.Conds)
			for k := 0; k+1 < len(q); {
				if q[k].Name == q[k+1].Name {
					q = slices.Replace(q, k, k+2, both(q[k], q[k+1]))
					joins++
				} else {
					k++
				}
			}
			together[i].Conds = q
		}
		if got, want := run(t, l, together, v), run(t, l, some, v); !reflect.DeepEqual(got, want) {
			t.Fatalf("%+v, %+v, %+v: %+v, not %+v", l, some, v, got, want)
		}
	}
	if joins < 2000 {
		t.Errorf("%d are joined", joins)
	}
}

// grafted is a tree with something else beneath an element.
func grafted(t *testing.T, c *chance, l []api.Node, i int) []api.Node {
	t.Helper()
	m, e := tree.Graft(l, i, someTree(t, c, 1+c.below(8)))
	if e != api.OK {
		t.Fatalf("%+v, %d: %d", l, i, e)
	}
	return m
}

// outside are two places that a node has in two trees, one of which has something else beneath an element: of each node that does not stand beneath it.
func outside(l, m []api.Node, i int) [][2]int {
	var all [][2]int
	for k := range i + 1 {
		all = append(all, [2]int{k, k})
	}
	for k, moved := tree.End(l, i), tree.End(m, i); k < len(l); k, moved = k+1, moved+1 {
		all = append(all, [2]int{k, moved})
	}
	return all
}

// TestContaining: W7: whatever stands beneath a container, it keeps what it holds; that of a SizeBox changes nothing else either.
func TestContaining(t *testing.T) {
	c := chance(17)
	var kinds [3]int
	for range 2000 {
		l, some, v := someTree(t, &c, 2+c.below(12)), someRules(t, &c, 10), someView(&c)
		r := run(t, l, some, v)
		x := extents(l, r.Styles, v)
		for i, e := range x {
			if e.Type == api.Normal {
				continue
			}
			kinds[e.Type]++
			m := grafted(t, &c, l, i)
			other := run(t, m, some, v)
			if got := extents(m, other.Styles, v)[i]; got != e {
				t.Fatalf("%+v, %+v, %+v: %d holds %+v, not %+v", l, some, v, i, got, e)
			}
			for _, k := range outside(l, m, i) {
				if other.Styles[k[1]] != r.Styles[k[0]] && e.Type == api.SizeBox || e.Type == api.SizeBox && other.Boxes[k[1]] != r.Boxes[k[0]] {
					t.Fatalf("%+v, %+v, %+v: %v has changed by what stands beneath %d", l, some, v, k, i)
				}
			}
		}
	}
	if kinds[api.InlineBox] < 1500 || kinds[api.SizeBox] < 1500 {
		t.Errorf("kinds: %v", kinds)
	}
}

// TestHiding: W8: whatever stands beneath what is not shown changes nothing that is not beneath it.
func TestHiding(t *testing.T) {
	c := chance(19)
	hidden := 0
	for range 6000 {
		l, some, v := someTree(t, &c, 2+c.below(12)), someRules(t, &c, 10), someView(&c)
		r := run(t, l, some, v)
		for i, n := range l {
			if n.Tag == "" || r.Boxes[i].Shown {
				continue
			}
			hidden++
			m := grafted(t, &c, l, i)
			other := run(t, m, some, v)
			for _, k := range outside(l, m, i) {
				if other.Styles[k[1]] != r.Styles[k[0]] || other.Boxes[k[1]] != r.Boxes[k[0]] || !slices.Equal(other.Truths[k[1]], r.Truths[k[0]]) {
					t.Fatalf("%+v, %+v, %+v: %v has changed by what stands beneath %d", l, some, v, k, i)
				}
			}
			if len(other.Events) != len(r.Events) {
				t.Fatalf("%+v, %+v, %+v: beneath %d something was done", l, some, v, i)
			}
		}
	}
	if hidden < 3000 {
		t.Errorf("%d are hidden", hidden)
	}
}

// TestWindow: P25.6, P1: one page in windows of all sizes, each time as reckoned, with as many events of asking.
func TestWindow(t *testing.T) {
	l := page(t, `a{b.x{c{d "some words"} c.y} b{c{"more"}}}`)
	some := rules(t, "a{display:flex;container-type:inline-size} b{flex:1;container:x/size;height:50cqw} @container (width > 30px) {b{flex:2} .x{order:1;height:20cqw} @container x (height > 9px) {c{container-type:inline-size;width:50%} .y{display:none}}} @container (width < 20px) {d{width:50cqw;height:50cqh}}")
	for w := -2; w < 130; w++ {
		v := api.View{W: w * 32, H: 50 * api.Unit}
		r := reckon(t, l, some, v)
		inOrder(t, l, some, v, r)
	}
	for _, w := range ends() {
		for _, h := range ends() {
			reckon(t, l, some, api.View{W: w, H: h})
		}
	}
	if _, e := engine.Run(l, some, api.View{}); e != api.OK {
		t.Errorf("%d", e)
	}
}
