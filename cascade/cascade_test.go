package cascade_test

import (
	"math"
	"slices"
	"testing"

	"wainscot/api"
	"wainscot/cascade"
	"wainscot/markup"
	"wainscot/match"
	"wainscot/prop"
	"wainscot/selector"
	"wainscot/sheet"
)

const (
	least = math.MinInt
	most  = math.MaxInt
)

// chance hands out numbers that look like chance, the same ones in every run.
type chance uint64

func (c *chance) below(n int) int {
	*c = *c*6364136223846793005 + 1442695040888963407
	return int(uint64(*c)>>33) % n
}

// oneOf is one of some.
func oneOf[T any](c *chance, l ...T) T {
	return l[c.below(len(l))]
}

// page is a text's tree.
func page(t *testing.T, s string) []api.Node {
	t.Helper()
	l, at, e := markup.Parse(s)
	if e != api.OK {
		t.Fatalf("%q: %d at %d", s, e, at)
	}
	return l
}

// rules are a text's, of an Origin.
func rules(t *testing.T, s string, origin int) []api.Rule {
	t.Helper()
	l, e := sheet.Parse(s, origin)
	if e != api.OK {
		t.Fatalf("%q: %d", s, e)
	}
	return l
}

// all are n rules that are on.
func all(n int) []bool {
	return slices.Repeat([]bool{true}, n)
}

// number is a Number's value.
func number(n int) api.Value {
	return api.Value{Kind: api.Number, N: n * 1000}
}

// declared is a declaration that stands somewhere, and what it wins by.
type declared struct {
	level      int
	weight     [3]int
	rule, decl int
}

// levelOf is the level by the chapter's words.
func levelOf(origin int, important bool) int {
	if origin == 0 {
		return map[bool]int{false: 0, true: 3}[important]
	}
	return map[bool]int{false: 1, true: 2}[important]
}

// wins tells by the chapter's words whether one of two declarations wins.
func wins(a, b declared) bool {
	switch {
	case a.level != b.level:
		return a.level > b.level
	case a.weight != b.weight:
		return selector.Compare(a.weight, b.weight) > 0
	case a.rule != b.rule:
		return a.rule > b.rule
	}
	return a.decl > b.decl
}

// winnerOf is the declaration of a property that wins over all others of it, by the chapter's words.
func winnerOf(l []api.Node, i int, rules []api.Rule, on []bool, p int) (int, int) {
	var some []declared
	for r, rule := range rules {
		var weights [][3]int
		for _, s := range rule.Sels {
			if match.Picks(l, i, s) {
				weights = append(weights, selector.Weight(s))
			}
		}
		if r >= len(on) || !on[r] || len(weights) == 0 {
			continue
		}
		for k, d := range rule.Decls {
			if d.Prop == p {
				some = append(some, declared{levelOf(rule.Origin, d.Important), slices.MaxFunc(weights, selector.Compare), r, k})
			}
		}
	}
	for _, a := range some {
		if !slices.ContainsFunc(some, func(b declared) bool { return b != a && !wins(a, b) }) {
			return a.rule, a.decl
		}
	}
	return -1, -1
}

// reckoned fails if what is answered is not as the chapter's words say; it tells how many declarations win over others.
func reckoned(t *testing.T, l []api.Node, rules []api.Rule, on []bool) int {
	t.Helper()
	won := 0
	for i := -1; i <= len(l); i++ {
		told := cascade.Told(l, i, rules, on)
		if len(told) != 37 {
			t.Fatalf("%d values", len(told))
		}
		for p := 1; p <= 37; p++ {
			wantRule, wantDecl := winnerOf(l, i, rules, on, p)
			if r, d := cascade.Winner(l, i, rules, on, p); r != wantRule || d != wantDecl {
				t.Fatalf("of %d of %v, %v, %v: %d is %d, %d, not %d, %d", i, l, rules, on, p, r, d, wantRule, wantDecl)
			}
			var want api.Value
			if wantRule >= 0 {
				want = rules[wantRule].Decls[wantDecl].Value
				won++
			}
			if told[p-1] != want {
				t.Fatalf("of %d of %v, %v, %v: %d is %v, not %v", i, l, rules, on, p, told[p-1], want)
			}
		}
	}
	return won
}

// someList is a list of n nodes that looks like chance, a tree or none.
func someList(c *chance, n int) []api.Node {
	var l []api.Node
	for i := range n {
		one := api.Node{Parent: oneOf(c, i-1, i-1, 0, c.below(i+1), oneOf(c, -1, i, n, least, most))}
		if c.below(8) > 0 {
			one.Tag, one.ID = oneOf(c, "a", "b"), oneOf(c, "", "", "a", "b")
		}
		for range c.below(3) {
			one.Classes = append(one.Classes, oneOf(c, "a", "b"))
		}
		l = append(l, one)
	}
	return l
}

// somePart is a part that asks for little.
func somePart(c *chance) api.Part {
	return oneOf(c, api.Part{}, api.Part{Tag: "a"}, api.Part{Tag: "b"}, api.Part{ID: "a"}, api.Part{Classes: []string{"a"}}, api.Part{Classes: []string{"a", "b"}}, api.Part{Classes: []string{"b", "b"}}, api.Part{Tag: "a", Classes: []string{"b"}}, api.Part{States: api.IsFirst}, api.Part{ID: "b", Tag: "a"})
}

// someRules are n that look like chance, not all of them right.
func someRules(c *chance, n int) []api.Rule {
	var l []api.Rule
	for range n {
		r := api.Rule{Origin: oneOf(c, 0, 0, 1, 1, 1, oneOf(c, -1, 2, 1<<32, least, most))}
		for range oneOf(c, 0, 1, 1, 1, 2, 3) {
			s := api.Selector{Parts: []api.Part{somePart(c)}}
			if c.below(4) == 0 {
				second := somePart(c)
				second.Comb = c.below(6)
				s.Parts = append(s.Parts, second)
			}
			r.Sels = append(r.Sels, s)
		}
		for range c.below(4) {
			r.Decls = append(r.Decls, api.Decl{Prop: oneOf(c, 1, 2, 2, 27, 27, 37, c.below(40)), Value: api.Value{Kind: c.below(8), N: c.below(1000), Name: oneOf(c, "", "x")}, Important: c.below(3) == 0})
		}
		l = append(l, r)
	}
	return l
}

// someTruths are at most n of them, or more.
func someTruths(c *chance, n int) []bool {
	var on []bool
	for range oneOf(c, n, n, n+2, c.below(n+1)) {
		on = append(on, c.below(5) > 0)
	}
	return on
}

// TestExamples: the chapter's own.
func TestExamples(t *testing.T) {
	l := page(t, "p.x")
	order := prop.Named("order")
	for s, want := range map[string]int{"p{order:1} .x{order:2} p{order:3!important}": 3, "p{order:1} .x{order:2}": 2} {
		r := rules(t, s, 1)
		if got := cascade.Told(l, 0, r, all(len(r))); got[order-1] != number(want) {
			t.Errorf("%q: %v", s, got)
		}
		if r, d := cascade.Winner(l, 0, r, all(len(r)), order); r != want-1 || d != 0 {
			t.Errorf("%q: %d, %d", s, r, d)
		}
	}
}

// TestLevel: P16.1.
func TestLevel(t *testing.T) {
	for origin, want := range map[int][2]int{0: {0, 3}, 1: {1, 2}, 2: {1, 2}, -1: {1, 2}, 1 << 32: {1, 2}, least: {1, 2}, most: {1, 2}} {
		for k, important := range []bool{false, true} {
			if got := cascade.Level(origin, important); got != want[k] {
				t.Errorf("of Origin %d, important %t: %d", origin, important, got)
			}
		}
	}
}

// TestWinner: P16.1, P16.2 of texts: the Order of an element a#i.x in a b.
func TestWinner(t *testing.T) {
	l := page(t, "b{a#i.x}")
	order := prop.Named("order")
	for _, c := range []struct {
		own, author string
		rule, decl  int
	}{
		{"", "", -1, -1}, {"", "b{order:1}", -1, -1}, {"", "a{width:1px}", -1, -1}, {"", "a{}", -1, -1}, {"", "a{order:1}", 0, 0}, {"a{order:1}", "", 0, 0},
		// Of equal ones that behind.
		{"", "a{order:1}a{order:2}", 1, 0}, {"", "a{order:1;order:2}", 0, 1}, {"", "a{order:1;order:2;width:1px}", 0, 1}, {"", "a{order:1;order:2}a{width:1px}a{width:2px;order:3;width:1px}", 2, 1},
		// The greater weight, wherever it stands.
		{"", "a.x{order:1}a{order:2}", 0, 0}, {"", "#i{order:1}a.x.x.x{order:2}", 0, 0}, {"", "b a{order:1}a{order:2}", 0, 0}, {"", ".x{order:1}b a{order:2}", 0, 0}, {"", "*{order:1}a{order:2}*{order:3}", 1, 0}, {"", "a.x{order:1}.x{order:2;order:3}", 0, 0},
		// Of a rule's selectors the greatest one that picks it counts.
		{"", "a, #i{order:1}.x{order:2}", 0, 0}, {"", "a, #j, b#i{order:1}.x{order:2}", 1, 0}, {"", "#i, a{order:1}.x{order:2}", 0, 0}, {"", "a, a{order:1}a{order:2}", 1, 0},
		// The author ahead of the window's own, be the weight what it may.
		{"#i{order:1}", "*{order:2}", 1, 0}, {"#i{order:1}a{order:3!important}", "#i{order:2!important}", 1, 0}, {"#i{order:1}", "a{order:2!important}", 1, 0}, {"*{order:1!important}", "#i{order:2}", 0, 0}, {"*{order:1!important}", "#i{order:2!important}", 0, 0},
		// What is important, wherever it stands, in one rule, too.
		{"", "a{order:1!important}a{order:2}", 0, 0}, {"", "a{order:1!important;order:2}", 0, 0}, {"", "a{order:1!important;order:2;order:3!important;order:4}", 0, 2}, {"", "*{order:1!important}#i{order:2}", 0, 0}, {"", "*{order:1!important}a{order:2!important}*{order:3!important}", 1, 0},
	} {
		r := slices.Concat(rules(t, c.own, 0), rules(t, c.author, 1))
		if rule, decl := cascade.Winner(l, 1, r, all(len(r)), order); rule != c.rule || decl != c.decl {
			t.Errorf("%q, %q: %d, %d, not %d, %d", c.own, c.author, rule, decl, c.rule, c.decl)
		}
		reckoned(t, l, r, all(len(r)))
	}
}

// TestWinnerOdd: P16.1: there is none of no element, and of no property that is declared.
func TestWinnerOdd(t *testing.T) {
	l := page(t, `a{"x"}`)
	r := rules(t, "*{order:1;width:1px}", 1)
	for _, i := range []int{least, -1, 1, 2, 1 << 32, most} {
		if rule, decl := cascade.Winner(l, i, r, all(1), prop.Named("order")); rule != -1 || decl != -1 {
			t.Errorf("of %d: %d, %d", i, rule, decl)
		}
		if told := cascade.Told(l, i, r, all(1)); !slices.Equal(told, make([]api.Value, 37)) {
			t.Errorf("of %d: %v", i, told)
		}
	}
	for _, p := range []int{least, -1, 0, 1, 38, 1 << 32, 1<<32 + 3, most} {
		if rule, decl := cascade.Winner(l, 0, r, all(1), p); rule != -1 || decl != -1 {
			t.Errorf("of %d: %d, %d", p, rule, decl)
		}
	}
}

// TestOn: P16.1, P16.2: only what is on counts, and what is beyond the list's end is not.
func TestOn(t *testing.T) {
	l := page(t, "a")
	r := rules(t, "a{order:1}a{order:2}a{order:3}", 1)
	for _, c := range []struct {
		on   []bool
		want int
	}{
		{nil, -1}, {[]bool{}, -1}, {[]bool{false, false, false}, -1}, {[]bool{true}, 0}, {[]bool{true, true}, 1}, {[]bool{true, true, true}, 2}, {[]bool{true, true, true, true, false}, 2}, {[]bool{true, false, false}, 0}, {[]bool{false, true, false}, 1}, {[]bool{false, true}, 1}, {[]bool{false}, -1}, {[]bool{false, false, false, true}, -1},
	} {
		if got, _ := cascade.Winner(l, 0, r, c.on, prop.Named("order")); got != c.want {
			t.Errorf("%v: %d, not %d", c.on, got, c.want)
		}
		reckoned(t, l, r, c.on)
	}
}

// TestTold: P16.2: each property has its own winner, at its own place.
func TestTold(t *testing.T) {
	l := page(t, "a.x")
	var decls []api.Decl
	for p := 1; p <= prop.Count; p++ {
		decls = append(decls, api.Decl{Prop: p, Value: api.Value{Kind: api.Number, N: p}})
	}
	r := []api.Rule{{Origin: 1, Sels: []api.Selector{{Parts: []api.Part{{}}}}, Decls: decls}}
	for k, v := range cascade.Told(l, 0, r, all(1)) {
		if v.N != k+1 {
			t.Errorf("at %d: %v", k, v)
		}
	}
	// What is no property is told nowhere.
	for _, p := range []int{least, least + 1, -1, 0, 38, 1 << 32, 1<<32 + 1, most} {
		r[0].Decls = []api.Decl{{Prop: p, Value: number(1)}}
		if told := cascade.Told(l, 0, r, all(1)); !slices.Equal(told, make([]api.Value, 37)) {
			t.Errorf("of %d: %v", p, told)
		}
	}
	r = rules(t, "a{width:1px;height:2px!important}.x{width:3px;height:4px;order:5}*{order:6!important}", 1)
	told := cascade.Told(l, 0, r, all(3))
	for name, n := range map[string]int{"width": 3000, "height": 2000, "order": 6000} {
		if got := told[prop.Named(name)-1].N; got != n {
			t.Errorf("%s: %d", name, got)
		}
	}
	if told := cascade.Told(nil, 0, nil, nil); !slices.Equal(told, make([]api.Value, 37)) {
		t.Errorf("of nothing: %v", told)
	}
}

// TestReckonedPairs: P16.1 of all two rules of two declarations each, of all origins, importances and two weights.
func TestReckonedPairs(t *testing.T) {
	l := page(t, "a.x")
	var some []api.Rule
	for origin := range 2 {
		for _, part := range []api.Part{{Tag: "a"}, {Classes: []string{"x"}}, {Tag: "b"}} {
			for kinds := range 16 {
				d := []api.Decl{{Prop: 27, Value: number(1), Important: kinds&1 > 0}, {Prop: 27, Value: number(2), Important: kinds&2 > 0}}
				if kinds&4 > 0 {
					d[0].Prop = 3
				}
				if kinds&8 > 0 {
					d[1].Prop = 3
				}
				some = append(some, api.Rule{Origin: origin, Sels: []api.Selector{{Parts: []api.Part{part}}}, Decls: d})
			}
		}
	}
	for _, a := range some {
		for _, b := range some {
			for on := range 4 {
				reckoned(t, l, []api.Rule{a, b}, []bool{on&1 == 0, on&2 == 0})
			}
		}
	}
}

// TestReckonedRules: P16.1, P16.2 of many rules and lists, not all of them right.
func TestReckonedRules(t *testing.T) {
	c := chance(3)
	won := 0
	for range 3000 {
		n := c.below(8)
		won += reckoned(t, someList(&c, 1+c.below(5)), someRules(&c, n), someTruths(&c, n))
	}
	if won < 3000 {
		t.Errorf("%d win", won)
	}
}

// TestIdle: P16.3: rules that do not count change nothing.
func TestIdle(t *testing.T) {
	c := chance(5)
	idle := 0
	for range 3000 {
		l, r := someList(&c, 1+c.below(5)), someRules(&c, c.below(8))
		on, i := someTruths(&c, len(r)), c.below(len(l))
		var few []api.Rule
		var where []int
		for k, one := range r {
			if _, picked := match.Best(l, i, one.Sels); picked && k < len(on) && on[k] {
				few, where = append(few, one), append(where, k)
			} else {
				idle++
			}
		}
		if a, b := cascade.Told(l, i, r, on), cascade.Told(l, i, few, all(len(few))); !slices.Equal(a, b) {
			t.Fatalf("of %d of %v, %v: %v, without what does not count %v", i, l, r, a, b)
		}
		for p := 1; p <= prop.Count; p++ {
			rule, decl := cascade.Winner(l, i, r, on, p)
			a, b := cascade.Winner(l, i, few, all(len(few)), p)
			if a >= 0 {
				a = where[a]
			}
			if a != rule || b != decl {
				t.Fatalf("of %d of %v, %v: %d, %d, without what does not count %d, %d", i, l, r, rule, decl, a, b)
			}
		}
	}
	if idle < 1000 {
		t.Errorf("%d do not count", idle)
	}
}

// TestBehind: P16.4: of two rules with the same selectors, of one Origin, the one behind wins.
func TestBehind(t *testing.T) {
	c := chance(7)
	for range 1000 {
		l, r := someList(&c, 1+c.below(5)), someRules(&c, 1)
		first, second := r[0], r[0]
		first.Decls, second.Decls = []api.Decl{{Prop: 27, Value: number(1)}}, []api.Decl{{Prop: 27, Value: number(2)}}
		for i := range l {
			want := -1
			if _, picked := match.Best(l, i, first.Sels); picked {
				want = 1
			}
			if got, _ := cascade.Winner(l, i, []api.Rule{first, second}, all(2), 27); got != want {
				t.Fatalf("of %d of %v, %v: %d, not %d", i, l, first, got, want)
			}
		}
	}
}

// TestLevels: P16.5: what is important wins over what is not, and the author over the window's own, where nothing is important; the other way around, where all is.
func TestLevels(t *testing.T) {
	l := page(t, "a#a.a")
	c := chance(9)
	one := func(origin int, important bool) api.Rule {
		s := oneOf(&c, api.Part{}, api.Part{Tag: "a"}, api.Part{ID: "a"}, api.Part{Classes: []string{"a"}})
		return api.Rule{Origin: origin, Sels: []api.Selector{{Parts: []api.Part{s}}}, Decls: []api.Decl{{Prop: 1, Important: important}}}
	}
	// The weakest first.
	for range 100 {
		steps := []api.Rule{one(0, false), one(1, false), one(1, true), one(0, true)}
		for a := range steps {
			for b := range steps {
				if a == b {
					continue
				}
				want := 0
				if b > a {
					want = 1
				}
				if got, _ := cascade.Winner(l, 0, []api.Rule{steps[a], steps[b]}, all(2), 1); got != want {
					t.Fatalf("%v, %v: %d", steps[a], steps[b], got)
				}
			}
		}
	}
}

// TestSilent: what is handed in stays as it is, and what is answered is new each time.
func TestSilent(t *testing.T) {
	c := chance(11)
	for range 300 {
		l, r := someList(&c, 4), someRules(&c, 5)
		on := someTruths(&c, 5)
		wasRules, wasOn := copied(r), slices.Clone(on)
		var wasList []api.Node
		for _, n := range l {
			n.Classes = slices.Clone(n.Classes)
			wasList = append(wasList, n)
		}
		for i := range l {
			cascade.Winner(l, i, r, on, 27)
			told := cascade.Told(l, i, r, on)
			again := slices.Clone(told)
			clear(told[:cap(told)])
			if got := cascade.Told(l, i, r, on); !slices.Equal(got, again) {
				t.Fatalf("%v was %v", got, again)
			}
		}
		sameNode := func(a, b api.Node) bool {
			return a.Parent == b.Parent && a.Tag == b.Tag && a.ID == b.ID && slices.Equal(a.Classes, b.Classes)
		}
		if !sheet.Same(r, wasRules) || !slices.Equal(on, wasOn) || !slices.EqualFunc(l, wasList, sameNode) {
			t.Fatalf("%v was %v, %v was %v, %v was %v", r, wasRules, on, wasOn, l, wasList)
		}
	}
}

// copied are the same rules in memory of their own.
func copied(l []api.Rule) []api.Rule {
	l = slices.Clone(l)
	for i := range l {
		l[i].Decls, l[i].Sels = slices.Clone(l[i].Decls), slices.Clone(l[i].Sels)
		for k := range l[i].Sels {
			parts := slices.Clone(l[i].Sels[k].Parts)
			for j := range parts {
				parts[j].Classes = slices.Clone(parts[j].Classes)
			}
			l[i].Sels[k].Parts = parts
		}
	}
	return l
}

// TestAnything: P1: every call ends and none panics, whatever it is given.
func TestAnything(t *testing.T) {
	c := chance(13)
	odd := []int{least, least + 1, -1, 0, 1, 2, 3, 27, 37, 38, 1 << 32, most}
	for range 10000 {
		l, r := someList(&c, 1+c.below(5))[c.below(2):], someRules(&c, c.below(5))
		for k := range r {
			for j := range r[k].Decls {
				d := &r[k].Decls[j]
				d.Prop, d.Value.Kind, d.Value.N = oneOf(&c, odd...), oneOf(&c, odd...), oneOf(&c, odd...)
			}
			for j := range r[k].Sels {
				if c.below(4) == 0 {
					r[k].Sels[j].Parts = oneOf(&c, nil, []api.Part{{Comb: oneOf(&c, odd...), States: oneOf(&c, odd...)}, {Comb: oneOf(&c, odd...)}})
				}
			}
		}
		on, i, p := someTruths(&c, len(r)), oneOf(&c, append(odd, c.below(5))...), oneOf(&c, odd...)
		if rule, decl := cascade.Winner(l, i, r, on, p); rule < -1 || rule >= len(r) || (rule == -1) != (decl == -1) {
			t.Fatalf("%v: %d, %d", r, rule, decl)
		}
		if told := cascade.Told(l, i, r, on); len(told) != 37 {
			t.Fatalf("%v: %d values", r, len(told))
		}
		cascade.Level(oneOf(&c, odd...), c.below(2) == 0)
	}
	// However many of them.
	l := page(t, "a")
	one := rules(t, "a{order:1;order:2}", 1)[0]
	many := slices.Repeat([]api.Rule{one}, 1<<14)
	if rule, decl := cascade.Winner(l, 0, many, all(1<<14), 27); rule != 1<<14-1 || decl != 1 {
		t.Errorf("of many %d, %d", rule, decl)
	}
	one.Decls = slices.Repeat(one.Decls, 1<<14)
	if rule, decl := cascade.Winner(l, 0, []api.Rule{one}, all(1), 27); rule != 0 || decl != 1<<15-1 {
		t.Errorf("of many %d, %d", rule, decl)
	}
	cascade.Told(l, 0, []api.Rule{one}, all(1))
}
