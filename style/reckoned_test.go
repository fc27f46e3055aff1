package style_test

import (
	"reflect"
	"slices"
	"strings"
	"testing"

	"wainscot/api"
	"wainscot/fix"
	"wainscot/holder"
	"wainscot/prop"
	"wainscot/style"
	"wainscot/value"
)

// table is the chapter's, a property a line: where it stands in a style, and what it comes to there: the place of a word in a row, or as said.
const table = `
display: Display, block flex none
box-sizing: Border, border
width: W, up
height: H, up
min-width: MinW, up
min-height: MinH, up
max-width: MaxW, up
max-height: MaxH, up
margin-top: Margin 0, size
margin-right: Margin 1, size
margin-bottom: Margin 2, size
margin-left: Margin 3, size
padding-top: Pad 0, up
padding-right: Pad 1, up
padding-bottom: Pad 2, up
padding-left: Pad 3, up
border-top-width: Edge 0, edge
border-right-width: Edge 1, edge
border-bottom-width: Edge 2, edge
border-left-width: Edge 3, edge
aspect-ratio: RatioN RatioD, ratio
flex-direction: Dir, row row-reverse column column-reverse
flex-wrap: Wrap, nowrap wrap wrap-reverse
flex-grow: Grow, number
flex-shrink: Shrink, number
flex-basis: Basis, up
order: Order, whole
justify-content: Justify, start end center space-between space-around space-evenly
align-items: Items, stretch start end center
align-self: Self, auto stretch start end center
align-content: Content, stretch start end center space-between space-around space-evenly
row-gap: RowGap, up
column-gap: ColGap, up
container-type: Type, normal inline-size size
container-name: Name, name
font-size: Font, font
line-height: Line, line`

// rowOf is where a property stands, and what it comes to.
func rowOf(t *testing.T, name string) (string, string) {
	t.Helper()
	for _, line := range strings.Split(table, "\n") {
		if rest, its := strings.CutPrefix(line, name+": "); its {
			at, what, _ := strings.Cut(rest, ", ")
			return at, what
		}
	}
	t.Fatalf("%s stands nowhere", name)
	return "", ""
}

// placesOf are the places in a style that a text tells.
func placesOf(s *api.Style, at string) []reflect.Value {
	var l []reflect.Value
	for _, word := range strings.Fields(at) {
		if i := strings.Index("0123", word); i >= 0 {
			l[0] = l[0].Index(i)
			continue
		}
		l = append(l, reflect.ValueOf(s).Elem().FieldByName(word))
	}
	return l
}

// carry puts what a property has in one style into another one.
func carry(t *testing.T, name string, from api.Style, to *api.Style) {
	t.Helper()
	at, _ := rowOf(t, name)
	for i, place := range placesOf(to, at) {
		place.Set(placesOf(&from, at)[i])
	}
}

// sizeOf is what a size comes to.
func sizeOf(v api.Value, measured int) api.Size {
	switch v.Kind {
	case api.Length:
		return api.Size{Kind: api.Fixed, N: measured}
	case api.Percent:
		return api.Size{Kind: api.Share, N: v.N}
	}
	kinds := map[string]int{"auto": api.Auto, "none": api.None, "min-content": api.MinCont, "max-content": api.MaxCont, "fit-content": api.FitCont, "content": api.MaxCont, "normal": api.Fixed}
	return api.Size{Kind: kinds[value.Text(v.N)]}
}

// comesTo is what a value comes to, of what the table says, with what it measures and the parent's em.
func comesTo(v api.Value, what string, measured, em int) []any {
	number := func(n, other int) int {
		if v.Kind == api.Word {
			return other
		}
		return n
	}
	switch what {
	case "border":
		return []any{value.Text(v.N) == "border-box"}
	case "up":
		return []any{sizeOf(v, max(0, measured))}
	case "size":
		return []any{sizeOf(v, measured)}
	case "edge":
		return []any{max(0, measured)}
	case "ratio":
		if v.Kind == api.Ratio {
			return []any{v.N, v.D}
		}
		return []any{number(v.N, 0), number(1000, 0)}
	case "number":
		return []any{v.N}
	case "whole":
		return []any{v.N / 1000}
	case "name":
		return []any{v.Name}
	case "font":
		if v.Kind == api.Percent {
			measured = fix.Percent(em, v.N)
		}
		return []any{max(0, measured)}
	case "line":
		return []any{number(v.N, 1200)}
	}
	return []any{slices.Index(strings.Fields(what), value.Text(v.N))}
}

// styleOf is Compute by the chapter's words, property by property, the em first.
func styleOf(t *testing.T, told []api.Value, parent api.Style, w, h int) api.Style {
	t.Helper()
	var s api.Style
	em := parent.Font
	for _, p := range append([]int{prop.Named("font-size")}, 1, 2, 3, 4, 5, 6, 7, 8, 9, 10, 11, 12, 13, 14, 15, 16, 17, 18, 19, 20, 21, 22, 23, 24, 25, 26, 27, 28, 29, 30, 31, 32, 33, 34, 35, 37) {
		name, v := prop.Name(p), wordOf("unset")
		if p <= len(told) && prop.Takes(p, told[p-1]) {
			v = told[p-1]
		}
		if v == wordOf("unset") {
			v = wordOf("initial")
			if name == "font-size" || name == "line-height" {
				v = wordOf("inherit")
			}
		}
		if v == wordOf("inherit") {
			carry(t, name, parent, &s)
		} else {
			if v == wordOf("initial") {
				v = prop.First(p)
			}
			at, what := rowOf(t, name)
			for i, place := range placesOf(&s, at) {
				place.Set(reflect.ValueOf(comesTo(v, what, holder.Measure(v, em, w, h), parent.Font)[i]))
			}
		}
		em = s.Font
	}
	return s
}

// someNumber is one at which something may change.
func someNumber(c *chance) int {
	return oneOf(c, 0, 1, 2, 1000, 1000*c.below(9), c.below(200000), -c.below(200000), api.MaxLen, oneOf(c, ends()...))
}

// someValue is one that a property takes, most times.
func someValue(c *chance, p int) api.Value {
	for range 20 {
		v := oneOf(c,
			api.Value{Kind: api.Word, N: 1 + c.below(30)},
			api.Value{Kind: api.Length, N: someNumber(c), D: 1 + c.below(8)},
			api.Value{Kind: api.Percent, N: someNumber(c)},
			api.Value{Kind: api.Number, N: someNumber(c)},
			api.Value{Kind: api.Ratio, N: someNumber(c), D: someNumber(c)},
			api.Value{Kind: api.Name, Name: oneOf(c, "a", "card", "--")})
		if prop.Takes(p, v) || c.below(20) == 0 {
			return v
		}
	}
	return api.Value{}
}

// someTold is what is told of some properties.
func someTold(c *chance) []api.Value {
	told := make([]api.Value, oneOf(c, prop.Count, prop.Count, prop.Count+3, c.below(prop.Count+1)))
	for i := range told {
		if c.below(3) > 0 {
			told[i] = someValue(c, i+1)
		}
	}
	return told
}

// someStyle is a parent's, made or not.
func someStyle(c *chance) api.Style {
	s := odd()
	if c.below(2) == 0 {
		s = style.Compute(someTold(c), style.Start(), someNumber(c), someNumber(c))
	}
	if c.below(4) == 0 {
		s.Font = someNumber(c)
	}
	return s
}

// TestReckoned: P17.2, by the chapter's words.
func TestReckoned(t *testing.T) {
	c := chance(1)
	for range 3000 {
		told, parent, w, h := someTold(&c), someStyle(&c), someNumber(&c), someNumber(&c)
		if got, want := style.Compute(told, parent, w, h), styleOf(t, told, parent, w, h); got != want {
			t.Fatalf("%v of %+v, %d, %d: %+v, not %+v", told, parent, w, h, got, want)
		}
	}
}

// TestReckonedOne: P17.2: each word, each unit, and other values, of each property.
func TestReckonedOne(t *testing.T) {
	var all []api.Value
	for n := range 32 {
		all = append(all, api.Value{Kind: api.Word, N: n})
	}
	// 28 to 30 are the numbers of the words that all take: no other value is one of these.
	for _, n := range []int{-api.MaxLen, -1500, -1, 0, 1, 28, 29, 30, 999, 1000, 1500, 2000, api.MaxLen} {
		for unit := range 10 {
			all = append(all, api.Value{Kind: api.Length, N: n, D: unit})
		}
		for _, d := range []int{0, 1, 1000} {
			all = append(all, api.Value{Kind: api.Ratio, N: n, D: d})
		}
		all = append(all, api.Value{Kind: api.Percent, N: n}, api.Value{Kind: api.Number, N: n}, api.Value{Kind: api.Name, N: n, Name: "a"})
	}
	for p := 1; p <= prop.Count; p++ {
		for _, v := range all {
			told := make([]api.Value, p)
			told[p-1] = v
			for _, parent := range []api.Style{odd(), style.Start()} {
				if got, want := style.Compute(told, parent, 6400, 12800), styleOf(t, told, parent, 6400, 12800); got != want {
					t.Fatalf("%s %v: %+v, not %+v", prop.Name(p), v, got, want)
				}
			}
		}
	}
}

// TestNothingTold: P17.3: of nothing told the style is that of nothing, but for Font and Line, which are the parent's.
func TestNothingTold(t *testing.T) {
	c := chance(3)
	for range 500 {
		parent := someStyle(&c)
		want := style.Start()
		want.Font, want.Line = parent.Font, parent.Line
		for _, told := range [][]api.Value{nil, {}, make([]api.Value, c.below(50))} {
			if got := style.Compute(told, parent, someNumber(&c), someNumber(&c)); got != want {
				t.Fatalf("%+v, not %+v", got, want)
			}
		}
	}
}

// TestInherited: P17.4: where all is inherit, it is the parent's.
func TestInherited(t *testing.T) {
	c := chance(5)
	all := slices.Repeat([]api.Value{wordOf("inherit")}, prop.Count)
	for range 500 {
		parent := someStyle(&c)
		if got := style.Compute(all, parent, someNumber(&c), someNumber(&c)); got != parent {
			t.Fatalf("%+v, not %+v", got, parent)
		}
	}
}

// TestBases: P17.5: without lengths of cqw and their like the bases change nothing.
func TestBases(t *testing.T) {
	c := chance(7)
	with := 0
	for range 2000 {
		told, parent := someTold(&c), someStyle(&c)
		a, b := style.Compute(told, parent, someNumber(&c), someNumber(&c)), style.Compute(told, parent, someNumber(&c), someNumber(&c))
		if a != b {
			with++
		}
		for i, v := range told {
			if v.Kind == api.Length && v.D >= api.Cqw {
				told[i] = oneOf(&c, api.Value{Kind: api.Length, N: v.N, D: api.Em}, api.Value{})
			}
		}
		a, b = style.Compute(told, parent, someNumber(&c), someNumber(&c)), style.Compute(told, parent, someNumber(&c), someNumber(&c))
		if a != b {
			t.Fatalf("%v: %+v, and %+v", told, a, b)
		}
	}
	if with < 500 {
		t.Errorf("only %d hang on the bases", with)
	}
}

// TestOthers: P17.5: what is told of one property changes no other one, but for font-size, and lengths of em.
func TestOthers(t *testing.T) {
	c := chance(9)
	for range 5000 {
		told, parent, w, h := someTold(&c), someStyle(&c), someNumber(&c), someNumber(&c)
		if len(told) == 0 {
			continue
		}
		p := 1 + c.below(min(len(told), prop.Count))
		other := slices.Clone(told)
		other[p-1] = someValue(&c, p)
		if prop.Name(p) == "font-size" {
			for i, v := range told {
				if v.Kind == api.Length && v.D == api.Em && i != p-1 {
					told[i], other[i] = api.Value{}, api.Value{}
				}
			}
		}
		a, b := style.Compute(told, parent, w, h), style.Compute(other, parent, w, h)
		carry(t, prop.Name(p), b, &a)
		if a != b {
			t.Fatalf("%s: %v, %v: %+v, not %+v", prop.Name(p), told, other, b, a)
		}
	}
}

// TestAnything: P1: every call ends and none panics, whatever it is given.
func TestAnything(t *testing.T) {
	c := chance(11)
	kinds := append(ends(), 2, 3, 4, 5, 6)
	for range 5000 {
		var told []api.Value
		for range c.below(45) {
			told = append(told, api.Value{Kind: oneOf(&c, kinds...), N: oneOf(&c, append(ends(), c.below(32))...), D: oneOf(&c, append(ends(), c.below(9))...), Name: oneOf(&c, "", "", "a", "auto", "\x00\xff")})
		}
		parent := odd()
		parent.Font, parent.Line = oneOf(&c, ends()...), oneOf(&c, ends()...)
		w, h := oneOf(&c, ends()...), oneOf(&c, ends()...)
		if got, want := style.Compute(told, parent, w, h), styleOf(t, told, parent, w, h); got != want {
			t.Fatalf("%v of %+v, %d, %d: %+v, not %+v", told, parent, w, h, got, want)
		}
	}
	// However many of one.
	for _, s := range []string{"inherit", "auto", "1em", "50%", "1", "1/2", "a"} {
		style.Compute(slices.Repeat([]api.Value{one(t, s)}, 1<<20), odd(), most, least)
	}
}
