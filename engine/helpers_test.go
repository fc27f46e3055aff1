package engine_test

import (
	"math"
	"slices"
	"strconv"
	"strings"
	"testing"

	"wainscot/api"
	"wainscot/engine"
	"wainscot/lay"
	"wainscot/markup"
	"wainscot/sheet"
)

const (
	lowest  = math.MinInt
	highest = math.MaxInt
)

// page is a text's tree.
func page(t *testing.T, s string) []api.Node {
	t.Helper()
	l, at, e := markup.Parse(s)
	if e != api.OK {
		t.Fatalf("%q: %d at %d", s, e, at)
	}
	return l
}

// rules are a text's, of the author's.
func rules(t *testing.T, s string) []api.Rule {
	t.Helper()
	return rulesOf(t, s, 1)
}

// rulesOf are a text's, of an Origin.
func rulesOf(t *testing.T, s string, origin int) []api.Rule {
	t.Helper()
	l, e := sheet.Parse(s, origin)
	if e != api.OK {
		t.Fatalf("%q: %d", s, e)
	}
	return l
}

// window is one of so many px.
func window(w, h int) api.View {
	return api.View{W: w * api.Unit, H: h * api.Unit}
}

// run is what is told of a page that is right.
func run(t *testing.T, l []api.Node, rules []api.Rule, v api.View) api.Result {
	t.Helper()
	r, e := engine.Run(l, rules, v)
	if e != api.OK {
		t.Fatalf("%+v, %+v: %d", l, rules, e)
	}
	return r
}

// ran is run of texts, in a window of 100 px and 50.
func ran(t *testing.T, tree, text string) api.Result {
	t.Helper()
	return run(t, page(t, tree), rules(t, text), window(100, 50))
}

// joined is parts as a text, with a blank between.
func joined[T any](l []T, text func(x T) string) string {
	var s []string
	for _, x := range l {
		s = append(s, text(x))
	}
	return strings.Join(s, " ")
}

// orders is the Order of each node.
func orders(r api.Result) string {
	return joined(r.Styles, func(s api.Style) string { return strconv.Itoa(s.Order) })
}

// truths are those of each node, digit by digit; - is none.
func truths(r api.Result) string {
	return joined(r.Truths, func(l []int) string {
		if len(l) == 0 {
			return "-"
		}
		return strings.ReplaceAll(joined(l, strconv.Itoa), " ", "")
	})
}

// events are what was done: of node 1 S1 that it was styled, A1.2 that 2 was asked of it, H1 that it was sealed as a holder, F1.2 that a line was resolved in 2 rounds. (A number that should be none stands there too.)
func events(r api.Result) string {
	kinds := []string{"", "S", "A", "H", "F"}
	return joined(r.Events, func(e api.Event) string {
		s := kinds[e.Kind] + strconv.Itoa(e.Node)
		if e.N != 0 || e.Kind == api.Asked || e.Kind == api.Frozen {
			s += "." + strconv.Itoa(e.N)
		}
		return s
	})
}

// same tells whether two results are, but for their events.
func same(a, b api.Result) bool {
	return slices.Equal(a.Styles, b.Styles) && slices.EqualFunc(a.Truths, b.Truths, slices.Equal[[]int]) && slices.Equal(a.Boxes, b.Boxes)
}

// extents are what styles lay out as holders, each with its Type, its Name, and the sizes with which it is sealed.
func extents(l []api.Node, s []api.Style, v api.View) []api.Extent {
	x := make([]api.Extent, len(l))
	lay.Walk(l, slices.Clone(s), v, func(i, w, h int) {
		x[i] = api.Extent{Type: s[i].Type, Name: s[i].Name, W: w, H: h}
	}, nil)
	return x
}

// asking are the rules that have Conds.
func asking(l []api.Rule) []api.Rule {
	return slices.DeleteFunc(slices.Clone(l), func(r api.Rule) bool { return len(r.Conds) == 0 })
}

// chance hands out numbers that look like chance, the same ones in every run.
type chance uint64

func (c *chance) below(n int) int {
	*c = *c*6364136223846793005 + 1442695040888963407
	return int(uint64(*c)>>33) % n
}

// oneOf is one of some.
func oneOf[T any](c *chance, l ...T) T {
	return l[c.below(len(l))]
}

// number is a number's text.
func number(n int) string {
	return strconv.Itoa(n)
}
