package engine_test

import (
	"slices"
	"testing"

	"wainscot/api"
	"wainscot/lay"
	"wainscot/tree"
)

// TestEvents: P25.2: what was done, in order.
func TestEvents(t *testing.T) {
	const asks = " p{} @container (width) {q{}} @container (height) {r{}}"
	check(t, events, []told{
		// Elements are styled from the first one on, words are not.
		{"a", "", "S0"}, {`a{b{"x" c} "y" d}`, "", "S0 S1 S3 S5"}, {`a{b{"x" c} d}`, "b{display:none}", "S0 S1 S4"}, {"a{b}", "a{display:none}", "S0"},
		// Each one is asked all ahead of that, rule by rule; the number is that among those that ask.
		{"a{b}", asks, "A0.0 A0.1 S0 A1.0 A1.1 S1"}, {"a{b{c} d}", asks + "b{display:none}", "A0.0 A0.1 S0 A1.0 A1.1 S1 A3.0 A3.1 S3"}, {`a{"x"}`, asks, "A0.0 A0.1 S0"}, {"a", "@container (width) { @container (height) {p{}} @container (width) {p{}} } q{} @container (width) {p{} q{}}", "A0.0 A0.1 A0.2 A0.3 S0"},
		// What stands beneath a holder is styled when that is sealed, all else is by then.
		{"a{b{c}}", "a{container-type:inline-size}", "S0 H0 S1 S2"}, {"a{b{c}}", "*{container-type:size}" + asks, "A0.0 A0.1 S0 H0 A1.0 A1.1 S1 H1 A2.0 A2.1 S2 H2"}, {"a{b{c} d{e}}", "b{container-type:size} d{container-type:inline-size}", "S0 S1 S3 H1 S2 H3 S4"}, {"a{b{c{d} e} f}", "b,c{container-type:inline-size}", "S0 S1 S5 H1 S2 S4 H2 S3"}, {"a{b{c} d}", "b{container-type:size;display:none}", "S0 S1 S3"}, {"a{b{c} d}", "a,b{container-type:size} b{display:none}", "S0 H0 S1 S3"},
		// Lines and columns, with their rounds.
		{"a{b c}", "a{display:flex}", "S0 S1 S2 F0.0"}, {"a{b c}", "a{display:flex} b,c{flex-grow:1}", "S0 S1 S2 F0.1"}, {"a{b c d}", "a{display:flex} *{flex-grow:1} b{max-width:9px}", "S0 S1 S2 S3 F0.2"}, {"a{b c d}", "a{display:flex;flex-wrap:wrap} b,c,d{width:45px} d{flex-grow:1}", "S0 S1 S2 S3 F0.0 F0.1"}, {"a{b c}", "a{display:flex;flex-flow:column}", "S0 S1 S2 F0.1"}, {"a", "a{display:flex;flex-flow:column}", "S0 F0.0"}, {"a", "a{display:flex}", "S0"},
		{"a{b{c} d{e}}", "a{display:flex} b{container-type:inline-size} d{container-type:size}", "S0 S1 S3 F0.0 H1 S2 H3 S4"}, {"a{b{c} d{e}}", "a{display:flex} b{container-type:size} d{container-type:inline-size}", "S0 S1 S3 F0.0 H3 S4 H1 S2"}, {"a{b{c} d{e}}", "a{display:flex;flex-flow:column} b{container-type:inline-size} d{container-type:size}", "S0 S1 S3 H1 S2 F0.1 H3 S4"}, {"a{b{c}}", "a,b{display:flex;container-type:inline-size}", "S0 H0 S1 F0.0 H1 S2 F1.1"},
	})
}

// place is where an event stands among some, or behind them all.
func place(l []api.Event, kind, node, n int) int {
	if at := slices.Index(l, api.Event{Kind: kind, Node: node, N: n}); at >= 0 {
		return at
	}
	return len(l)
}

// inOrder fails if of a page something else was done than what the chapter tells, or in another order.
func inOrder(t *testing.T, l []api.Node, rules []api.Rule, v api.View, r api.Result) {
	t.Helper()
	fail := func(what string, i int) {
		t.Helper()
		t.Fatalf("%+v, %+v, %+v: %s %d:\n%s", l, rules, v, what, i, events(r))
	}
	asks, elements, all := len(asking(rules)), 0, 0
	for i, n := range l {
		if n.Tag != "" {
			elements++
		}
		if n.Tag == "" || !open(l, r.Styles, i) {
			continue
		}
		// P25.3.
		all += 1 + asks
		styled := place(r.Events, api.Styled, i, 0)
		for k := range asks {
			if place(r.Events, api.Asked, i, k) >= styled {
				fail("is not asked ahead of being styled", i)
			}
		}
		// P25.4.
		if !holds(r, i) || !r.Boxes[i].Shown {
			continue
		}
		all++
		sized := place(r.Events, api.Sized, i, 0)
		if sized < styled {
			fail("is sized too early", i)
		}
		for k := i + 1; k < tree.End(l, i); k++ {
			if place(r.Events, api.Styled, k, 0) < sized || asks > 0 && place(r.Events, api.Asked, k, 0) < sized {
				fail("is sized too late", i)
			}
		}
	}
	// What the layout tells stands among them as it is told, and there is nothing else: so each of those is there once.
	var walked, told []api.Event
	lay.Walk(l, slices.Clone(r.Styles), v, func(i, w, h int) {
		walked = append(walked, api.Event{Kind: api.Sized, Node: i})
	}, func(i, n int) {
		walked = append(walked, api.Event{Kind: api.Frozen, Node: i, N: n})
		all++
	})
	for _, e := range r.Events {
		if e.Kind == api.Sized || e.Kind == api.Frozen {
			told = append(told, e)
		}
	}
	if !slices.Equal(told, walked) {
		fail("are not as they are laid out, all", len(told))
	}
	if len(r.Events) != all {
		fail("are not as many events as should be", all)
	}
	// P25.5.
	if len(r.Events) > elements*(asks+3)+len(l) {
		fail("events are too many for so many nodes", len(l))
	}
}

// TestOnce: P25.3, P25.4, P25.5: on many pages all is done once, in its order.
func TestOnce(t *testing.T) {
	c := chance(7)
	var kinds [5]int
	for range 4000 {
		l, some, v := someTree(t, &c, 1+c.below(16)), someRules(t, &c, 2+c.below(14)), someView(&c)
		if c.below(8) == 0 {
			some, v = wildRules(t, &c, 10), wildView(&c)
		}
		r := run(t, l, some, v)
		inOrder(t, l, some, v, r)
		for _, e := range r.Events {
			kinds[e.Kind]++
		}
	}
	if kinds[api.Styled] < 20000 || kinds[api.Asked] < 60000 || kinds[api.Sized] < 8000 || kinds[api.Frozen] < 2000 {
		t.Errorf("kinds: %v", kinds)
	}
}

// TestMany: P25.5: the greatest pages that ask the most: each element holds, and is a flex box.
func TestMany(t *testing.T) {
	full := slices.Repeat(rules(t, "@container (width) {*{order:1}}"), api.MaxRules-1)
	full = append(full, rules(t, "*{container-type:inline-size;display:flex;flex-flow:column}")...)
	for name, l := range map[string][]api.Node{"wide": wide(api.MaxNodes), "deep": deep(api.MaxDepth), "one": wide(1)} {
		r := run(t, l, full, window(100, 50))
		if want := len(l) * (api.MaxRules - 1 + 3); len(r.Events) != want {
			t.Errorf("%s: %d events, not %d", name, len(r.Events), want)
		}
		if last := len(l) - 1; last > 0 && r.Styles[last].Order != 1 {
			t.Errorf("%s: the last one is %+v", name, r.Styles[last])
		}
	}
	// In rows, and wrapped ones.
	for _, text := range []string{"*{container-type:size;display:flex}", "*{container-type:inline-size;display:flex;flex-wrap:wrap;padding:9px}"} {
		for _, l := range [][]api.Node{wide(200), deep(api.MaxDepth)} {
			some := append(full[:20:20], rules(t, text)...)
			inOrder(t, l, some, window(10, 10), run(t, l, some, window(10, 10)))
		}
	}
}
