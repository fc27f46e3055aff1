package engine_test

import (
	"reflect"
	"slices"
	"testing"

	"wainscot/api"
	"wainscot/engine"
	"wainscot/lay"
	"wainscot/style"
)

// TestExamples: the chapter's own, and those of the whole.
func TestExamples(t *testing.T) {
	l := page(t, "a{b{c}}")
	for _, c := range []struct {
		text string
		w    int
		want string
	}{
		{"a{container-type:inline-size} @container(width>9px){c{order:1}}", 10, "0 0 1"}, {"a{container-type:inline-size} @container(width>9px){c{order:1}}", 9, "0 0 0"}, {"a{container-type:inline-size} @container(height>9px){c{order:1}}", 10, "0 0 0"},
	} {
		if got := orders(run(t, l, rules(t, c.text), window(c.w, 5))); got != c.want {
			t.Errorf("%q in %d: %s", c.text, c.w, got)
		}
	}
	if b := ran(t, `a{b{"x"}}`, "b{container-type:size}").Boxes; b[1].H != 0 || b[2].H == 0 {
		t.Errorf("a SizeBox is %+v, words in it %+v", b[1], b[2])
	}
	b := run(t, page(t, "a{b c}"), rules(t, "a{display:flex} b,c{flex-grow:1}"), api.View{W: 641}).Boxes
	if b[1].W != 321 || b[2].W != 320 {
		t.Errorf("two that grow alike: %+v", b)
	}
}

// wide is a list of n nodes, one of which has all others.
func wide(n int) []api.Node {
	l := []api.Node{{Parent: -1, Tag: "a"}}
	for range n - 1 {
		l = append(l, api.Node{Tag: "b"})
	}
	return l
}

// deep is a list of n nodes, each in the one ahead.
func deep(n int) []api.Node {
	var l []api.Node
	for i := range n {
		l = append(l, api.Node{Parent: i - 1, Tag: "a"})
	}
	return l
}

// asks fails if not just that is answered, and, if it is an error, nothing else.
func asks(t *testing.T, name string, l []api.Node, rules []api.Rule, want api.Errno) {
	t.Helper()
	r, e := engine.Run(l, rules, window(100, 50))
	if e != want || e != api.OK && !reflect.DeepEqual(r, api.Result{}) {
		t.Errorf("%s: %d and %+v, not %d", name, e, r, want)
	}
	if n := len(l); e == api.OK && (len(r.Styles) != n || len(r.Truths) != n || len(r.Boxes) != n) {
		t.Errorf("%s: of %d nodes %d, %d, %d", name, n, len(r.Styles), len(r.Truths), len(r.Boxes))
	}
}

// odd are rules that are not right, by what is wrong.
func odd(t *testing.T) map[string]api.Rule {
	t.Helper()
	right := func() api.Rule { return rules(t, "@container (width) { a { order: 1 } }")[0] }
	edited := func(edit func(r *api.Rule)) api.Rule {
		r := right()
		edit(&r)
		return r
	}
	return map[string]api.Rule{
		"nothing":       {},
		"an origin":     edited(func(r *api.Rule) { r.Origin = 2 }),
		"one below":     edited(func(r *api.Rule) { r.Origin = -1 }),
		"five queries":  edited(func(r *api.Rule) { r.Conds = slices.Repeat(r.Conds, api.MaxConds+1) }),
		"a query":       edited(func(r *api.Rule) { r.Conds[0].Name = "and" }),
		"no selectors":  edited(func(r *api.Rule) { r.Sels = nil }),
		"257 selectors": edited(func(r *api.Rule) { r.Sels = slices.Repeat(r.Sels, api.MaxRules+1) }),
		"a selector":    edited(func(r *api.Rule) { r.Sels[0].Parts[0].Comb = api.Child }),
		"a property":    edited(func(r *api.Rule) { r.Decls[0].Prop = 38 }),
		"none":          edited(func(r *api.Rule) { r.Decls[0].Prop = 0 }),
		"a value":       edited(func(r *api.Rule) { r.Decls[0].Value.N = 1 }),
	}
}

// TestErrors: P25.1: what is no tree, rules that are too many or not right, in this order.
func TestErrors(t *testing.T) {
	l, right := page(t, "a{b}"), rules(t, "@container (width) { a { order: 1 } }")
	full, over := slices.Repeat(right, api.MaxRules), slices.Repeat(right, api.MaxRules+1)
	asks(t, "no rules", l, nil, api.OK)
	asks(t, "as many rules as may be", l, full, api.OK)
	asks(t, "as many nodes as may be", wide(api.MaxNodes), right, api.OK)
	asks(t, "as deep as may be", deep(api.MaxDepth), right, api.OK)
	asks(t, "one rule more", l, over, api.ErrRules)
	asks(t, "wrong ones that are too many", l, make([]api.Rule, api.MaxRules+1), api.ErrRules)
	for name, l := range map[string][]api.Node{
		"none":          nil,
		"one node more": wide(api.MaxNodes + 1),
		"one deeper":    deep(api.MaxDepth + 1),
		"words first":   {{Parent: -1, Text: "x"}},
		"a parent":      {{Parent: -1, Tag: "a"}, {Parent: 1, Tag: "b"}},
		"a first one's": {{Parent: 0, Tag: "a"}},
		"a tag":         {{Parent: -1, Tag: "1"}},
	} {
		asks(t, name, l, nil, api.ErrTree)
		asks(t, name+", and rules", l, over, api.ErrTree)
		asks(t, name+", and a wrong rule", l, []api.Rule{{}}, api.ErrTree)
	}
	for name, r := range odd(t) {
		asks(t, name, l, []api.Rule{r}, api.ErrForm)
		for _, at := range []int{0, 99, api.MaxRules - 1} {
			some := slices.Clone(full)
			some[at] = r
			asks(t, name, l, some, api.ErrForm)
			asks(t, name+", of too many", l, append(some, right...), api.ErrRules)
		}
	}
	// What may just be.
	r := right[0]
	r.Conds, r.Sels, r.Decls = slices.Repeat(r.Conds, api.MaxConds), slices.Repeat(r.Sels, api.MaxRules), nil
	asks(t, "as many of all as may be", l, []api.Rule{r}, api.OK)
	r = right[0]
	r.Origin, r.Conds = 0, nil
	asks(t, "the window's own", l, []api.Rule{r}, api.OK)
}

// told is a page, a sheet, and what is asked for of what is told of them.
type told struct{ page, sheet, want string }

// check fails if pages, in a window of 100 px and 50, are not told of as asked for.
func check(t *testing.T, what func(r api.Result) string, l []told) {
	t.Helper()
	for _, c := range l {
		if got := what(ran(t, c.page, c.sheet)); got != c.want {
			t.Errorf("%s, %s: %s, not %s", c.page, c.sheet, got, c.want)
		}
	}
}

// TestWhoIsOn: P25.1: which rules are on, by who is asked and what is answered.
func TestWhoIsOn(t *testing.T) {
	const all = "{*{order:1}} "
	check(t, orders, []told{
		// Who holds is not asked itself, but by what stands beneath it alone.
		{"a{b{c} d}", "*{order:1}", "1 1 1 1"}, {"a{b{c} d}", "a{container-type:inline-size} @container (width: 100px)" + all, "0 1 1 1"}, {"a{b{c} d}", "b{container-type:inline-size} @container (width: 100px)" + all, "0 0 1 0"}, {"a{b{c} d}", "@container (width)" + all, "0 0 0 0"}, {"a{b{c} d}", "@container not (width)" + all, "0 0 0 0"},
		// False and what is unknown are not True.
		{"a{b}", "a{container-type:inline-size} @container (width > 100px)" + all, "0 0"}, {"a{b}", "a{container-type:inline-size} @container (height)" + all, "0 0"}, {"a{b}", "a{container-type:inline-size} @container not (height)" + all, "0 0"}, {"a{b}", "a{container-type:inline-size} @container (height) or (width)" + all, "0 1"}, {"a{b}", "a{container-type:size} @container not (height)" + all, "0 1"},
		// The nearest one is asked, of a name the nearest of that name.
		{"a{b{c}}", "*{container-type:inline-size} b{width:30px} @container (width: 30px)" + all, "0 0 1"}, {"a{b{c}}", "*{container-type:inline-size} a{container-name:x} b{width:30px} @container x (width: 100px)" + all, "0 1 1"}, {"a{b{c}}", "a{container:x/size} b{container:y/inline-size} @container x (height: 0px)" + all, "0 1 1"}, {"a{b{c}}", "a,b{container:x/inline-size} b{width:30px} @container x (width: 30px)" + all, "0 0 1"}, {"a{b{c}}", "a{container-name:x} @container x (width)" + all, "0 0 0"}, {"a{b{c}}", "a{container:x/inline-size} @container X (width)" + all, "0 0 0"},
		// All queries that a rule stands in must be True, each asks for itself.
		{"a{b{c}}", "a{container:x/inline-size} b{container:y/inline-size;width:30px} @container x (width: 100px) { @container (width: 30px)" + all + "}", "0 0 1"}, {"a{b}", "a{container-type:inline-size} @container (width: 100px) { @container (width: 99px)" + all + "}", "0 0"}, {"a{b}", "a{container-type:inline-size} @container (height) { @container (width: 100px)" + all + "}", "0 0"}, {"a{b}", "a{container-type:inline-size} @container (width) { @container (width) { @container (width) { @container (width)" + all + "}}}", "0 1"},
		// Rules that are on count as ever: by weight, place, importance and origin.
		{"a{b}", "a{container-type:inline-size} b{order:1} @container (width) {b{order:2}}", "0 2"}, {"a{b}", "a{container-type:inline-size} @container (width) {b{order:2}} b{order:1}", "0 1"}, {"a{b}", "a{container-type:inline-size} @container (width) {b:last-child{order:2}} b{order:1}", "0 2"}, {"a{b}", "a{container-type:inline-size} @container (width) {b{order:2!important}} b{order:1}", "0 2"}, {"a{b}", "a{container-type:inline-size} b{order:1} @container (height) {b{order:2!important}} @container (width > 100px) {b{order:3}}", "0 1"}, {"a{b}", "a{container-type:inline-size} b{order:1} @container (width) {b{order:2}} @container (width < 9px) {b{order:3}}", "0 2"},
		// Who holds may hang on who holds above it.
		{"a{b{c}}", "a{container-type:inline-size} @container (width: 100px) {b{container-type:inline-size;width:30px}} @container (width: 30px)" + all, "0 0 1"}, {"a{b{c}}", "a{container-type:inline-size} @container (width: 99px) {b{container-type:inline-size;width:30px}} @container (width: 30px)" + all, "0 0 0"}, {"a{b{c}}", "a,b{container-type:inline-size} @container (width: 100px) {b{container-type:normal;container-name:x}} @container (width: 100px)" + all, "0 1 1"}, {"a{b{c{d}}}", "*{container-type:inline-size;padding:0px 1px} @container (width: 98px) {*{order:1}} @container (width: 96px) {*{order:2}} @container (width: 94px) {*{order:3}}", "0 1 2 3"},
	})
	// The window's own rules are asked, too, and lose.
	l, v := page(t, "a{b}"), window(100, 50)
	own, author := rulesOf(t, "@container (width) {*{order:1}}", 0), rules(t, "a{container-type:inline-size} @container (width: 100px) {*{order:2}}")
	for want, some := range map[string][]api.Rule{"0 2": append(slices.Clone(own), author...), "0 1": append(slices.Clone(own), author[:1]...)} {
		if got := orders(run(t, l, some, v)); got != want {
			t.Errorf("%s, not %s", got, want)
		}
	}
}

// TestExtents: P25.1: asked are the sizes with which holders are sealed.
func TestExtents(t *testing.T) {
	holds := func(w, h string) string {
		return "@container (width: " + w + ") and (height: " + h + ") {*{order:1}} "
	}
	check(t, orders, []told{
		// Those of the content.
		{"a{b}", "a{container-type:size;height:30px} " + holds("100px", "30px"), "0 1"}, {"a{b}", "a{container-type:size;height:30px;padding:1px 2px 3px 4px;border-width:1px} " + holds("92px", "30px"), "0 1"}, {"a{b}", "a{container-type:size;height:30px;padding:1px 2px 3px 4px;box-sizing:border-box;width:50%} " + holds("44px", "26px"), "0 1"}, {"a{b}", "a{container-type:size;height:50%} " + holds("100px", "25px"), "0 1"}, {"a{b}", "a{container-type:size;aspect-ratio:4} " + holds("100px", "25px"), "0 1"},
		// What stands in it is no size of it.
		{`a{"some words" b}`, "a{container-type:size} b{height:9px} " + holds("100px", "0px"), "0 0 1"}, {`a{b{"some words" c}}`, "a{display:flex} b{container-type:inline-size} @container (width: 0px) {c{order:1}}", "0 0 0 1"},
		// The last sizes of what lies in a flex box.
		{"a{b{c} d{e}}", "a{display:flex;height:40px} b,d{container-type:size;flex:1} " + holds("50px", "40px"), "0 0 1 0 1"}, {"a{b{c}}", "a{display:flex;flex-direction:column;height:40px} b{container-type:size;flex:1} " + holds("100px", "40px"), "0 0 1"}, {"a{b{c}}", "a{display:flex;height:40px} b{container-type:inline-size;flex:1} @container (width: 100px) {*{order:1}} @container (height) {*{order:2}}", "0 0 1"}, {"a{b{c} d{e}}", "a{display:flex;flex-wrap:wrap;height:40px} b,d{container-type:size;width:60px} " + holds("60px", "20px"), "0 0 1 0 1"},
	})
}

// TestBases: P25.1: what lengths are measured by: who holds, and else the window.
func TestBases(t *testing.T) {
	lengths := func(r api.Result) string {
		return joined(r.Styles, func(s api.Style) string {
			return number(s.W.N/api.Unit) + "/" + number(s.H.N/api.Unit)
		})
	}
	check(t, lengths, []told{
		{"a{b{c}}", "*{width:10cqw;height:10cqh}", "10/5 10/5 10/5"}, {"a{b{c}}", "a{container-type:inline-size} *{width:50cqw;height:10cqh}", "50/5 25/5 25/5"}, {"a{b{c}}", "a{container-type:size} *{width:50cqw;height:50cqh}", "50/25 25/12 25/12"}, {"a{b{c}}", "*{container-type:inline-size;width:50cqi;height:10cqb}", "50/5 25/5 12/5"}, {"a{b{c}}", "a{container-type:size;height:20px} b{container-type:inline-size;width:10px} c{width:100cqmin;height:100cqmax}", "0/20 10/0 10/20"},
		// The em is one's own, and the parent's for its own size.
		{"a{b{c}}", "a{font-size:10px} b{font-size:2em} *{width:1em;height:1px}", "10/1 20/1 20/1"}, {"a{b{c}}", "a{font-size:inherit} b{font-size:50%} *{width:1em;height:1px}", "16/1 8/1 8/1"}, {"a{b{c}}", "a{container-type:inline-size} b{font-size:10cqw} b,c{width:1em;height:1px}", "0/0 10/1 10/1"},
		// The first node's parent is that of nothing, others have theirs.
		{"a{b{c}}", "*{width:inherit} b{width:7px}", "0/0 7/0 7/0"},
	})
	if s := ran(t, "a{b}", "*{width:inherit}").Styles; s[0] != style.Start() || s[1] != style.Start() {
		t.Errorf("%+v", s)
	}
}

// TestHidden: P25.1: what is hidden is styled, what stands beneath it is not, nor are words.
func TestHidden(t *testing.T) {
	hidden := func(r api.Result) string {
		return joined(r.Styles, func(s api.Style) string {
			if s == (api.Style{}) {
				return "-"
			}
			return number(s.Display)
		})
	}
	check(t, hidden, []told{
		{"a{b{c} d}", "", "0 0 0 0"}, {"a{b{c} d}", "a{display:none}", "2 - - -"}, {"a{b{c} d}", "b{display:none}", "0 2 - 0"}, {"a{b{c} d}", "*{display:none}", "2 - - -"}, {"a{b{c{d}}}", "b{display:none} c{display:flex}", "0 2 - -"}, {`a{b{"x" c} "y" d{"z"}}`, "b{display:none} a{display:flex}", "1 2 - - - 0 -"},
		// Who holds and is hidden holds nothing, and what hides may be asked.
		{"a{b{c} d}", "b{display:none;container-type:size}", "0 2 - 0"}, {"a{b{c}}", "a{display:none;container-type:inline-size}", "2 - -"}, {"a{b{c} d}", "a{container-type:inline-size} @container (width > 99px) {b{display:none}}", "0 2 - 0"}, {"a{b{c} d}", "a{container-type:inline-size} @container (width > 100px) {b{display:none}}", "0 0 0 0"},
	})
	r := ran(t, `a{b{"x" c} "y" d}`, "b{display:none} *{order:1}")
	want := style.Start()
	want.Order = 1
	for i, s := range []api.Style{want, r.Styles[1], {}, {}, {}, want} {
		if r.Styles[i] != s {
			t.Errorf("%d: %+v", i, r.Styles[i])
		}
	}
	if shown := joined(r.Boxes, func(b api.Box) string { return map[bool]string{true: "x", false: "-"}[b.Shown] }); shown != "x - - - x x" {
		t.Errorf("shown: %s", shown)
	}
}

// TestTruths: P25.1: of each element that is styled the truths of all asking rules, whether these pick it or not.
func TestTruths(t *testing.T) {
	const three = "p{} @container (width) {q{}} r{} @container (width > 100px) {*{order:1} *{}} @container (height) {a{}} s{} "
	check(t, truths, []told{
		{"a{b}", "", "- -"}, {"a{b}", "*{order:1}", "- -"}, {"a{b}", three, "2222 2222"}, {"a{b}", "a{container-type:inline-size} " + three, "2222 1002"}, {"a{b}", three + "a{container-type:size}", "2222 1000"}, {`a{"x" b{"y"} "z"}`, three + "a{container-type:size}", "2222 - 1000 - -"},
		// Of what is hidden, but not beneath it.
		{"a{b{c}}", "a{container-type:size} b{display:none;container-type:size} " + three, "2222 1000 -"},
		// All queries are joined: False, if one is, else unknown, if one is.
		{"a{b}", "a{container-type:inline-size} @container (width) { @container (height) {c{}} @container (width < 9px) {c{}} @container (width) {c{}} } @container (height) { @container (width > 100px) {c{}} @container (width) {c{}} @container (height) {c{}} } @container (width: 0px) { @container (height) {c{}} }", "2222222 2010220"},
	})
	// No list is another one's.
	r := ran(t, "a{b c}", three+"a{container-type:size}")
	_ = append(r.Truths[1], 7)
	r.Truths[1][0] = 7
	if got := truths(r); got != "2222 7000 1000" {
		t.Errorf("%s", got)
	}
}

// TestBoxes: P25.1: the boxes are those of the styles.
func TestBoxes(t *testing.T) {
	l := page(t, `a{b{"some words" c} d}`)
	text := "a{display:flex} b{container-type:size;flex:1;height:20px} d{width:30px} @container (width: 70px) {c{height:50cqh;width:50cqw}}"
	r := run(t, l, rules(t, text), window(100, 50))
	if got := r.Boxes[3]; got.W != 35*api.Unit || got.H != 10*api.Unit {
		t.Errorf("c is %+v", got)
	}
	if !slices.Equal(r.Boxes, lay.Lay(l, r.Styles, window(100, 50))) {
		t.Errorf("%+v", r.Boxes)
	}
}
