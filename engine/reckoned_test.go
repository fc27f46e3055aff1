package engine_test

import (
	"reflect"
	"slices"
	"testing"

	"wainscot/api"
	"wainscot/cascade"
	"wainscot/engine"
	"wainscot/holder"
	"wainscot/lay"
	"wainscot/style"
	"wainscot/tree"
	"wainscot/truth"
)

// The chapter's words, one by one: what is told is styled anew by the holders that it lays out, until it stays as it is.

// reckoned is the result of a page, but for the events.
func reckoned(t *testing.T, l []api.Node, rules []api.Rule, v api.View) api.Result {
	t.Helper()
	r := api.Result{Styles: make([]api.Style, len(l))}
	// Each time one more holder has its last size, of those that stand beneath one another.
	for range api.MaxDepth + 2 {
		next := styledBy(l, rules, v, extents(l, r.Styles, v))
		if same(next, r) {
			return r
		}
		r = next
	}
	t.Fatalf("%+v, %+v, %+v: no end", l, rules, v)
	return r
}

// styledBy is what is told of a page, if these are the extents.
func styledBy(l []api.Node, rules []api.Rule, v api.View, x []api.Extent) api.Result {
	r := api.Result{Styles: make([]api.Style, len(l)), Truths: make([][]int, len(l))}
	for i, n := range l {
		if n.Tag == "" || !open(l, r.Styles, i) {
			continue
		}
		var on []bool
		for _, rule := range rules {
			all := api.True
			for _, q := range rule.Conds {
				all = truth.And(all, holder.Truth(l, x, i, q))
			}
			on = append(on, all == api.True)
			if len(rule.Conds) > 0 {
				r.Truths[i] = append(r.Truths[i], all)
			}
		}
		parent := style.Start()
		if i > 0 {
			parent = r.Styles[n.Parent]
		}
		w, h := holder.Bases(l, x, i, v)
		r.Styles[i] = style.Compute(cascade.Told(l, i, rules, on), parent, w, h)
	}
	r.Boxes = lay.Lay(l, r.Styles, v)
	return r
}

// open tells whether nothing above a node is hidden.
func open(l []api.Node, s []api.Style, i int) bool {
	return !slices.ContainsFunc(tree.Ups(l, i), func(up int) bool { return s[up].Display == api.Hidden })
}

// holds tells whether a node holds what stands beneath it.
func holds(r api.Result, i int) bool {
	return r.Styles[i].Type == api.InlineBox || r.Styles[i].Type == api.SizeBox
}

// above are how many holders a node stands beneath.
func above(l []api.Node, r api.Result, i int) int {
	n := 0
	for _, up := range tree.Ups(l, i) {
		if holds(r, up) {
			n++
		}
	}
	return n
}

// reckon fails if a page is not told of as reckoned.
func reckon(t *testing.T, l []api.Node, rules []api.Rule, v api.View) api.Result {
	t.Helper()
	r := run(t, l, rules, v)
	if want := reckoned(t, l, rules, v); !same(r, want) {
		t.Fatalf("%+v, %+v, %+v:\n%+v, not\n%+v", l, rules, v, r, want)
	}
	return r
}

// TestReckoned: P25.1: styles, truths and boxes of many pages.
func TestReckoned(t *testing.T) {
	c := chance(1)
	var deep [5]int
	var told [3]int
	differ := 0
	for range 5000 {
		n := 1 + c.below(16)
		l, some, v := someTree(t, &c, n), someRules(t, &c, 2+c.below(14)), someView(&c)
		r := reckon(t, l, some, v)
		for i := range l {
			deep[min(4, above(l, r, i))]++
			for _, a := range r.Truths[i] {
				told[a]++
			}
		}
		unasked := slices.DeleteFunc(slices.Clone(some), func(r api.Rule) bool { return len(r.Conds) > 0 })
		if !slices.Equal(run(t, l, unasked, v).Styles, r.Styles) {
			differ++
		}
	}
	if deep[1] < 10000 || deep[2] < 3000 || deep[3] < 1500 || deep[4] < 1500 || slices.Min(told[:]) < 10000 || differ < 500 {
		t.Errorf("beneath so many holders: %v; truths: %v; asked for something: %d", deep, told, differ)
	}
}

// TestWild: P1, P25.1: with numbers of all sizes.
func TestWild(t *testing.T) {
	c := chance(3)
	for range 3000 {
		l, some, v := someTree(t, &c, 1+c.below(14)), wildRules(t, &c, 2+c.below(14)), wildView(&c)
		if c.below(4) == 0 {
			v = someView(&c)
		}
		reckon(t, l, some, v)
	}
}

// TestOdd: P1: with lists that are no trees, and rules that are not right, and without any.
func TestOdd(t *testing.T) {
	c := chance(5)
	var answers [3]int
	for range 10000 {
		l, some, v := someTree(t, &c, 1+c.below(5)), wildRules(t, &c, c.below(5)), wildView(&c)
		number := func() int { return oneOf(&c, ends()...) }
		for range c.below(2) {
			one := &l[c.below(len(l))]
			oneOf(&c, func() { one.Parent = number() }, func() { one.Tag = oneOf(&c, "", "-", "b") }, func() { one.Text = "x" }, func() { one.Classes = []string{oneOf(&c, "", "z")} })()
		}
		for i := range c.below(len(some) + 1) {
			one := &some[i]
			oneOf(&c, func() { one.Origin = number() }, func() { one.Sels = nil }, func() { one.Sels = []api.Selector{{}} }, func() { one.Conds = []api.Query{{}} }, func() {
				one.Decls = []api.Decl{{Prop: number(), Value: api.Value{Kind: number(), N: number(), D: number()}}}
			})()
		}
		r, e := engine.Run(l, some, v)
		switch {
		case e == api.OK:
			answers[0]++
			reckon(t, l, some, v)
		case e == api.ErrTree:
			answers[1]++
		case e == api.ErrForm && tree.Check(l) == api.OK:
			answers[2]++
		default:
			t.Fatalf("%+v, %+v: %d", l, some, e)
		}
		if e != api.OK && !reflect.DeepEqual(r, api.Result{}) {
			t.Fatalf("%+v, %+v: %d and %+v", l, some, e, r)
		}
	}
	if slices.Min(answers[:]) < 500 {
		t.Errorf("answers: %v", answers)
	}
	for _, l := range [][]api.Node{nil, {}, {{}}} {
		if r, e := engine.Run(l, nil, api.View{}); e != api.ErrTree || !reflect.DeepEqual(r, api.Result{}) {
			t.Errorf("%v: %+v, %d", l, r, e)
		}
	}
	reckon(t, page(t, "a"), nil, api.View{})
	reckon(t, page(t, "a"), []api.Rule{}, api.View{})
}
