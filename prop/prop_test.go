package prop_test

import (
	"math"
	"slices"
	"strings"
	"testing"

	"wainscot/api"
	"wainscot/prop"
	"wainscot/value"
)

const (
	least = math.MinInt
	most  = math.MaxInt
)

// chance hands out numbers that look like chance, the same ones in every run.
type chance uint64

func (c *chance) below(n int) int {
	*c = *c*6364136223846793005 + 1442695040888963407
	return int(uint64(*c)>>33) % n
}

// oneOf is one of some.
func oneOf[T any](c *chance, l ...T) T {
	return l[c.below(len(l))]
}

// allNames are the properties, as the chapter names them.
func allNames() []string {
	return strings.Split("display, box-sizing, width, height, min-width, min-height, max-width, max-height, margin-top, margin-right, margin-bottom, margin-left, padding-top, padding-right, padding-bottom, padding-left, border-top-width, border-right-width, border-bottom-width, border-left-width, aspect-ratio, flex-direction, flex-wrap, flex-grow, flex-shrink, flex-basis, order, justify-content, align-items, align-self, align-content, row-gap, column-gap, container-type, container-name, font-size, line-height", ", ")
}

// shorthands are the shorthands, as the chapter names them.
func shorthands() []string {
	return strings.Split("margin, padding, border-width, gap, flex-flow, flex, container", ", ")
}

// allWords are all words that there are.
func allWords() []string {
	var l []string
	for n := 1; value.Text(n) != ""; n++ {
		l = append(l, value.Text(n))
	}
	return l
}

// table is the chapter's table, a row a line: properties; words; what else is taken; what it has at first.
const table = `
display; block, flex, none; ; block
box-sizing; content-box, border-box; ; content-box
width, min-width; auto, min-content, max-content, fit-content; extents up; auto
height, min-height; auto; extents up; auto
max-width; none, min-content, max-content, fit-content; extents up; none
max-height; none; extents up; none
margin-top, margin-right, margin-bottom, margin-left; auto; extents; 0px
padding-top, padding-right, padding-bottom, padding-left; ; extents up; 0px
border-top-width, border-right-width, border-bottom-width, border-left-width; ; Lengths up; 0px
aspect-ratio; auto; a Ratio of two above 0, a Number above 0; auto
flex-direction; row, row-reverse, column, column-reverse; ; row
flex-wrap; nowrap, wrap, wrap-reverse; ; nowrap
flex-grow; ; a Number up; 0
flex-shrink; ; a Number up; 1
flex-basis; auto, content; extents up; auto
order; ; a Number, a whole one; 0
justify-content; start, end, center, space-between, space-around, space-evenly; ; start
align-items; stretch, start, end, center; ; stretch
align-self; auto, stretch, start, end, center; ; auto
align-content; stretch, start, end, center, space-between, space-around, space-evenly; ; stretch
row-gap, column-gap; normal; extents up; normal
container-type; normal, inline-size, size; ; normal
container-name; none; a Name; none
font-size; ; extents up; 16px
line-height; normal; a Number up; normal`

// row is what the table says of a property.
type row struct {
	words []string
	and   string
	first api.Value
}

// rows are the table's, by property.
func rows(t *testing.T) map[string]row {
	t.Helper()
	m := map[string]row{}
	for _, line := range strings.Split(strings.TrimSpace(table), "\n") {
		cells := strings.Split(line, ";")
		for i := range cells {
			cells[i] = strings.TrimSpace(cells[i])
		}
		for _, name := range strings.Split(cells[0], ", ") {
			m[name] = row{strings.Split(cells[1], ", "), cells[2], one(t, cells[3])}
		}
	}
	if len(m) != 37 {
		t.Fatal(len(m))
	}
	return m
}

// takes tells by the table whether a right value is taken.
func (r row) takes(v api.Value) bool {
	extent := v.Kind == api.Length || v.Kind == api.Percent
	switch v.Kind {
	case api.Word:
		return slices.Contains(append([]string{"inherit", "initial", "unset"}, r.words...), value.Text(v.N))
	case api.Name:
		return r.and == "a Name"
	}
	switch r.and {
	case "extents":
		return extent
	case "extents up":
		return extent && v.N >= 0
	case "Lengths up":
		return v.Kind == api.Length && v.N >= 0
	case "a Ratio of two above 0, a Number above 0":
		return v.Kind == api.Ratio && v.N > 0 && v.D > 0 || v.Kind == api.Number && v.N > 0
	case "a Number up":
		return v.Kind == api.Number && v.N >= 0
	case "a Number, a whole one":
		return v.Kind == api.Number && v.N/1000*1000 == v.N
	}
	return false
}

// grid hands over values of which each part is one of some that matter.
func grid(take func(v api.Value)) {
	numbers := []int{least, -1<<30 - 1, -1 << 30, -1500, -1000, -1, 0, 1, 2, 8, 9, 999, 1000, 1001, 16000, 1 << 30, 1<<30 + 1, 1<<32 + 1, most}
	for n := 3; n < 32; n++ {
		numbers = append(numbers, n)
	}
	for _, kind := range []int{-1, 0, 1, 2, 3, 4, 5, 6, 7} {
		for _, n := range numbers {
			for _, d := range []int{least, -1, 0, 1, 2, 3, 8, 9, 1000, 1 << 30, 1<<30 + 1, most} {
				for _, s := range []string{"", "a", "card", "auto", "inherit", "1", "--", strings.Repeat("a", 33)} {
					take(api.Value{Kind: kind, N: n, D: d, Name: s})
				}
			}
		}
	}
}

// beyond are numbers of no property.
func beyond() []int {
	return []int{least, -37, -1, 0, 38, 39, 1<<32 + 1, most}
}

// TestNames: P10.1: properties and their names.
func TestNames(t *testing.T) {
	all := allNames()
	if len(all) != 37 || prop.Count != 37 {
		t.Fatal(len(all), prop.Count)
	}
	for i, s := range all {
		if got := prop.Named(s); got != i+1 {
			t.Errorf("%s: %d, not %d", s, got, i+1)
		}
		if got := prop.Name(i + 1); got != s {
			t.Errorf("%d: %s, not %s", i+1, got, s)
		}
		for _, odd := range []string{s + " ", " " + s, s + "s", strings.ToUpper(s), s[1:], s + "\x00"} {
			if got := prop.Named(odd); got != 0 {
				t.Errorf("%q: %d", odd, got)
			}
		}
	}
	for _, s := range append(shorthands(), "", " ", "-", "color", "border", "margin-", "border-width-top", "auto", strings.Repeat("width", 1<<14)) {
		if got := prop.Named(s); got != 0 {
			t.Errorf("%q: %d", s, got)
		}
	}
	for _, p := range beyond() {
		if got := prop.Name(p); got != "" {
			t.Errorf("%d: %q", p, got)
		}
	}
}

// TestFirst: P10.1, P10.6: what a property has at first, which it takes.
func TestFirst(t *testing.T) {
	for name, r := range rows(t) {
		p := prop.Named(name)
		if got := prop.First(p); got != r.first || !prop.Takes(p, got) {
			t.Errorf("%s: %v, not %v", name, got, r.first)
		}
	}
	for _, p := range beyond() {
		if got := prop.First(p); got != (api.Value{}) {
			t.Errorf("%d: %v", p, got)
		}
	}
}

// TestInherits: P10.1.
func TestInherits(t *testing.T) {
	for i, s := range allNames() {
		if got := prop.Inherits(i + 1); got != (s == "font-size" || s == "line-height") {
			t.Errorf("%s: %t", s, got)
		}
	}
	for _, p := range beyond() {
		if prop.Inherits(p) {
			t.Error(p)
		}
	}
}

// TestTakes: P10.1: what each property takes, by the table.
func TestTakes(t *testing.T) {
	all := rows(t)
	for i, name := range allNames() {
		taken := 0
		grid(func(v api.Value) {
			want := value.Right(v) && all[name].takes(v)
			if got := prop.Takes(i+1, v); got != want {
				t.Fatalf("%s, %v: %t", name, v, got)
			}
			if want {
				taken++
			}
		})
		if taken < 5 {
			t.Errorf("%s takes only %d", name, taken)
		}
	}
	for _, p := range beyond() {
		grid(func(v api.Value) {
			if prop.Takes(p, v) {
				t.Fatalf("%d takes %v", p, v)
			}
		})
	}
}

// TestTakesTold: P10.1: some that are told.
func TestTakesTold(t *testing.T) {
	for _, c := range []struct {
		names, taken, not string
	}{
		{"display", "block|flex|none|inherit|initial|unset", "auto|row|a|0|1px|1%|1/1|content|normal"},
		{"width min-width", "0px|1.5em|2cqw|3cqmax|50%|200%|auto|min-content|unset", "none|-1px|-1%|0|5|1/2|a|content|normal|-0.001px"},
		{"height min-height max-height", "0px|10cqh|50%|inherit", "min-content|max-content|fit-content|-1px|0|a"},
		{"max-width", "none|fit-content|1px", "auto|-1px|0"},
		{"margin-top margin-right margin-bottom margin-left", "auto|1px|-1px|-50%|-3em", "0|none|normal|1/2|a"},
		{"padding-top padding-right padding-bottom padding-left font-size", "0px|1px|50%|2em|initial", "auto|-1px|-1%|0|none|normal"},
		{"border-top-width border-right-width border-bottom-width border-left-width", "0px|1em|inherit", "1%|0%|-1px|auto|none|0"},
		{"aspect-ratio", "auto|16/9|0.001/1|1|0.5", "0|0/1|1/0|0/0|-1|none|1px|1%"},
		{"flex-grow flex-shrink", "0|1|0.5|1000000", "-1|-0.001|auto|1px|1/2|1%|none"},
		{"flex-basis", "auto|content|0px|50%", "0|-1px|min-content|none|1/2"},
		{"order", "0|-1|1|5|-1000000", "0.5|-0.001|1.5|auto|1px|1/1|1%"},
		{"row-gap column-gap", "normal|0px|50%", "auto|none|-1px|-1%|0"},
		{"container-name", "none|a|card|--|Auto|px", "auto|normal|size|row|1px|0|1/2"},
		{"container-type", "normal|inline-size|size", "auto|none|block|a|1px"},
		{"line-height", "normal|0|1.5|inherit", "-1|1px|150%|auto|1/2|a"},
	} {
		for _, name := range strings.Fields(c.names) {
			for _, s := range strings.Split(c.taken, "|") {
				if !prop.Takes(prop.Named(name), one(t, s)) {
					t.Errorf("%s does not take %s", name, s)
				}
			}
			for _, s := range strings.Split(c.not, "|") {
				if prop.Takes(prop.Named(name), one(t, s)) {
					t.Errorf("%s takes %s", name, s)
				}
			}
		}
	}
}

// TestAnything: P1: every call ends and none panics, whatever it is given.
func TestAnything(t *testing.T) {
	c := chance(9)
	odd := []int{least, least + 1, -1, 0, 1, 21, 38, 1 << 32, most}
	names := append(append(allNames(), shorthands()...), "", "a", "\x00\xff")
	for range 50000 {
		d := api.RawDecl{Name: oneOf(&c, names...), Important: c.below(2) == 0}
		for range c.below(7) {
			kind := c.below(api.Space + 2)
			if c.below(8) == 0 {
				kind = oneOf(&c, odd...)
			}
			d.Value = append(d.Value, api.Token{Kind: kind, Text: oneOf(&c, "", "auto", "a", "px", "/", "inherit", "\x00\xff"), N: oneOf(&c, odd...)})
		}
		prop.Parse(d)
		v := api.Value{Kind: oneOf(&c, odd...), N: oneOf(&c, odd...), D: oneOf(&c, odd...), Name: oneOf(&c, names...)}
		p := oneOf(&c, append(odd, c.below(40))...)
		prop.Takes(p, v)
		prop.Raw(api.Decl{Prop: p, Value: v})
	}
	// However many of one, and however long a name.
	for _, name := range append(names, strings.Repeat("a", 1<<20)) {
		prop.Named(name)
		for _, k := range []api.Token{{Kind: api.Space}, {Kind: api.Num}, {Kind: api.Delim, Text: "/"}, {Kind: api.Ident, Text: "inherit"}, {Kind: api.Ident, Text: "a"}} {
			prop.Parse(api.RawDecl{Name: name, Value: slices.Repeat([]api.Token{k}, 1<<12)})
			prop.Parse(api.RawDecl{Name: name, Value: slices.Repeat([]api.Token{k, {Kind: api.Space}}, 1<<12)})
			prop.Parse(api.RawDecl{Name: name, Value: slices.Repeat([]api.Token{k, {Kind: api.Delim, Text: "/"}}, 1<<12)})
		}
	}
}
