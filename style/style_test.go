package style_test

import (
	"math"
	"slices"
	"strings"
	"testing"

	"wainscot/api"
	"wainscot/fix"
	"wainscot/lex"
	"wainscot/prop"
	"wainscot/style"
	"wainscot/value"
)

const (
	least = math.MinInt
	most  = math.MaxInt
)

// chance hands out numbers that look like chance, the same ones in every run.
type chance uint64

func (c *chance) below(n int) int {
	*c = *c*6364136223846793005 + 1442695040888963407
	return int(uint64(*c)>>33) % n
}

// oneOf is one of some.
func oneOf[T any](c *chance, l ...T) T {
	return l[c.below(len(l))]
}

// ends are numbers at which something may change.
func ends() []int {
	return []int{least, -api.MaxLen - 1, -api.MaxLen, -1024, -1, 0, 1, 1024, api.MaxLen, api.MaxLen + 1, 1<<32 + 1, most}
}

// one is a text's value.
func one(t *testing.T, s string) api.Value {
	t.Helper()
	k, e := lex.Lex(s)
	l, e2 := value.Parse(k)
	if e != api.OK || e2 != api.OK || len(l) != 1 {
		t.Fatalf("%q: %v, %d, %d", s, l, e, e2)
	}
	return l[0]
}

// wordOf is a word's value.
func wordOf(s string) api.Value {
	return api.Value{Kind: api.Word, N: value.Word(s)}
}

// tell is what is told where properties have values, as in "width 1px, order 2".
func tell(t *testing.T, s string) []api.Value {
	t.Helper()
	l := make([]api.Value, prop.Count)
	for _, told := range strings.Split(s, ", ") {
		name, text, some := strings.Cut(told, " ")
		p := prop.Named(name)
		if !some || p == 0 {
			t.Fatalf("%q tells nothing", told)
		}
		l[p-1] = one(t, text)
	}
	return l
}

// nothing is the style of nothing, by the chapters' words.
func nothing() api.Style {
	zero := api.Size{Kind: api.Fixed}
	none := api.Size{Kind: api.None}
	return api.Style{
		MaxW: none, MaxH: none, Margin: [4]api.Size{zero, zero, zero, zero}, Pad: [4]api.Size{zero, zero, zero, zero},
		Shrink: 1000, RowGap: zero, ColGap: zero, Font: 1024, Line: 1200,
	}
}

// odd is a parent's style in which everything is as it is nowhere else.
func odd() api.Style {
	size := func(n int) api.Size { return api.Size{Kind: n, N: 1000 + n} }
	return api.Style{
		Display: 41, Border: true, W: size(11), H: size(12), MinW: size(13), MinH: size(14), MaxW: size(15), MaxH: size(16),
		Margin: [4]api.Size{size(21), size(22), size(23), size(24)}, Pad: [4]api.Size{size(31), size(32), size(33), size(34)}, Edge: [4]int{-1, -2, -3, -4},
		RatioN: -5, RatioD: -6, Dir: 42, Wrap: 43, Grow: -7, Shrink: -8, Basis: size(17), Order: most, Justify: 44, Items: 45, Self: 46, Content: 47,
		RowGap: size(18), ColGap: size(19), Type: 48, Name: "auto \x00", Font: 640, Line: -9,
	}
}

// TestExamples: the chapter's own.
func TestExamples(t *testing.T) {
	parent := style.Start()
	got := style.Compute(tell(t, "font-size 2em, width 10em"), parent, 0, 0)
	if parent.Font != 1024 || got.Font != 2048 || got.W != (api.Size{Kind: api.Fixed, N: 20480}) {
		t.Errorf("%d, %d, %v", parent.Font, got.Font, got.W)
	}
}

// TestStart: P17.1.
func TestStart(t *testing.T) {
	if got := style.Start(); got != nothing() {
		t.Errorf("%+v, not %+v", got, nothing())
	}
}

// TestComesTo: P17.2: what each property comes to; all else is as of nothing.
func TestComesTo(t *testing.T) {
	// The element's em is 640, the bases 400 px and 300 px.
	const em, w, h = 640, 400 * 64, 300 * 64
	fixed := func(n int) api.Size { return api.Size{Kind: api.Fixed, N: n} }
	share := func(n int) api.Size { return api.Size{Kind: api.Share, N: n} }
	kind := func(n int) api.Size { return api.Size{Kind: n} }
	type put = func(s *api.Style)
	for told, want := range map[string]put{
		"display block": func(s *api.Style) { s.Display = 0 }, "display flex": func(s *api.Style) { s.Display = 1 }, "display none": func(s *api.Style) { s.Display = 2 },
		"box-sizing content-box": func(s *api.Style) { s.Border = false }, "box-sizing border-box": func(s *api.Style) { s.Border = true },
		"width auto": func(s *api.Style) { s.W = kind(api.Auto) }, "width 1.5px": func(s *api.Style) { s.W = fixed(96) }, "width 10em": func(s *api.Style) { s.W = fixed(10 * em) }, "width 50%": func(s *api.Style) { s.W = share(50000) }, "width min-content": func(s *api.Style) { s.W = kind(api.MinCont) }, "width max-content": func(s *api.Style) { s.W = kind(api.MaxCont) }, "width fit-content": func(s *api.Style) { s.W = kind(api.FitCont) },
		"width 10cqw": func(s *api.Style) { s.W = fixed(40 * 64) }, "width 10cqi": func(s *api.Style) { s.W = fixed(40 * 64) }, "width 10cqh": func(s *api.Style) { s.W = fixed(30 * 64) }, "width 10cqb": func(s *api.Style) { s.W = fixed(30 * 64) }, "width 10cqmin": func(s *api.Style) { s.W = fixed(30 * 64) }, "width 10cqmax": func(s *api.Style) { s.W = fixed(40 * 64) },
		"height auto": func(s *api.Style) { s.H = kind(api.Auto) }, "height 2px": func(s *api.Style) { s.H = fixed(128) }, "height 10cqb": func(s *api.Style) { s.H = fixed(30 * 64) }, "height 200%": func(s *api.Style) { s.H = share(200000) },
		"min-width auto": func(s *api.Style) { s.MinW = kind(api.Auto) }, "min-width 3px": func(s *api.Style) { s.MinW = fixed(192) }, "min-width 0%": func(s *api.Style) { s.MinW = share(0) }, "min-width min-content": func(s *api.Style) { s.MinW = kind(api.MinCont) }, "min-width max-content": func(s *api.Style) { s.MinW = kind(api.MaxCont) }, "min-width fit-content": func(s *api.Style) { s.MinW = kind(api.FitCont) },
		"min-height auto": func(s *api.Style) { s.MinH = kind(api.Auto) }, "min-height 4px": func(s *api.Style) { s.MinH = fixed(256) }, "min-height 1%": func(s *api.Style) { s.MinH = share(1000) },
		"max-width none": func(s *api.Style) { s.MaxW = kind(api.None) }, "max-width 5px": func(s *api.Style) { s.MaxW = fixed(320) }, "max-width 1%": func(s *api.Style) { s.MaxW = share(1000) }, "max-width min-content": func(s *api.Style) { s.MaxW = kind(api.MinCont) }, "max-width max-content": func(s *api.Style) { s.MaxW = kind(api.MaxCont) }, "max-width fit-content": func(s *api.Style) { s.MaxW = kind(api.FitCont) },
		"max-height none": func(s *api.Style) { s.MaxH = kind(api.None) }, "max-height 0px": func(s *api.Style) { s.MaxH = fixed(0) }, "max-height 1%": func(s *api.Style) { s.MaxH = share(1000) },
		"margin-top 1px": func(s *api.Style) { s.Margin[0] = fixed(64) }, "margin-right -1px": func(s *api.Style) { s.Margin[1] = fixed(-64) }, "margin-bottom -50%": func(s *api.Style) { s.Margin[2] = share(-50000) }, "margin-left auto": func(s *api.Style) { s.Margin[3] = kind(api.Auto) }, "margin-left -2em": func(s *api.Style) { s.Margin[3] = fixed(-2 * em) },
		"padding-top 1px": func(s *api.Style) { s.Pad[0] = fixed(64) }, "padding-right 1em": func(s *api.Style) { s.Pad[1] = fixed(em) }, "padding-bottom 50%": func(s *api.Style) { s.Pad[2] = share(50000) }, "padding-left 1cqw": func(s *api.Style) { s.Pad[3] = fixed(4 * 64) },
		"border-top-width 1px": func(s *api.Style) { s.Edge[0] = 64 }, "border-right-width 2em": func(s *api.Style) { s.Edge[1] = 2 * em }, "border-bottom-width 1cqh": func(s *api.Style) { s.Edge[2] = 3 * 64 }, "border-left-width 0.5px": func(s *api.Style) { s.Edge[3] = 32 },
		"aspect-ratio auto": func(s *api.Style) { s.RatioN, s.RatioD = 0, 0 }, "aspect-ratio 1.5": func(s *api.Style) { s.RatioN, s.RatioD = 1500, 1000 }, "aspect-ratio 16/9": func(s *api.Style) { s.RatioN, s.RatioD = 16000, 9000 },
		"flex-direction row": func(s *api.Style) { s.Dir = 0 }, "flex-direction row-reverse": func(s *api.Style) { s.Dir = 1 }, "flex-direction column": func(s *api.Style) { s.Dir = 2 }, "flex-direction column-reverse": func(s *api.Style) { s.Dir = 3 },
		"flex-wrap nowrap": func(s *api.Style) { s.Wrap = 0 }, "flex-wrap wrap": func(s *api.Style) { s.Wrap = 1 }, "flex-wrap wrap-reverse": func(s *api.Style) { s.Wrap = 2 },
		"flex-grow 1.5": func(s *api.Style) { s.Grow = 1500 }, "flex-shrink 0": func(s *api.Style) { s.Shrink = 0 }, "flex-shrink 2": func(s *api.Style) { s.Shrink = 2000 },
		"flex-basis auto": func(s *api.Style) { s.Basis = kind(api.Auto) }, "flex-basis content": func(s *api.Style) { s.Basis = kind(api.MaxCont) }, "flex-basis 0px": func(s *api.Style) { s.Basis = fixed(0) }, "flex-basis 5%": func(s *api.Style) { s.Basis = share(5000) },
		"order 3": func(s *api.Style) { s.Order = 3 }, "order -3": func(s *api.Style) { s.Order = -3 }, "order 0": func(s *api.Style) { s.Order = 0 },
		"justify-content start": func(s *api.Style) { s.Justify = 0 }, "justify-content end": func(s *api.Style) { s.Justify = 1 }, "justify-content center": func(s *api.Style) { s.Justify = 2 }, "justify-content space-between": func(s *api.Style) { s.Justify = 3 }, "justify-content space-around": func(s *api.Style) { s.Justify = 4 }, "justify-content space-evenly": func(s *api.Style) { s.Justify = 5 },
		"align-items stretch": func(s *api.Style) { s.Items = 0 }, "align-items start": func(s *api.Style) { s.Items = 1 }, "align-items end": func(s *api.Style) { s.Items = 2 }, "align-items center": func(s *api.Style) { s.Items = 3 },
		"align-self auto": func(s *api.Style) { s.Self = 0 }, "align-self stretch": func(s *api.Style) { s.Self = 1 }, "align-self start": func(s *api.Style) { s.Self = 2 }, "align-self end": func(s *api.Style) { s.Self = 3 }, "align-self center": func(s *api.Style) { s.Self = 4 },
		"align-content stretch": func(s *api.Style) { s.Content = 0 }, "align-content start": func(s *api.Style) { s.Content = 1 }, "align-content end": func(s *api.Style) { s.Content = 2 }, "align-content center": func(s *api.Style) { s.Content = 3 }, "align-content space-between": func(s *api.Style) { s.Content = 4 }, "align-content space-around": func(s *api.Style) { s.Content = 5 }, "align-content space-evenly": func(s *api.Style) { s.Content = 6 },
		"row-gap normal": func(s *api.Style) { s.RowGap = fixed(0) }, "row-gap 1px": func(s *api.Style) { s.RowGap = fixed(64) }, "row-gap 1%": func(s *api.Style) { s.RowGap = share(1000) }, "column-gap normal": func(s *api.Style) { s.ColGap = fixed(0) }, "column-gap 1em": func(s *api.Style) { s.ColGap = fixed(em) }, "column-gap 0%": func(s *api.Style) { s.ColGap = share(0) },
		"container-type normal": func(s *api.Style) { s.Type = api.Normal }, "container-type inline-size": func(s *api.Style) { s.Type = api.InlineBox }, "container-type size": func(s *api.Style) { s.Type = api.SizeBox },
		"container-name card": func(s *api.Style) { s.Name = "card" }, "container-name none": func(s *api.Style) { s.Name = "" },
		"font-size 10px": func(s *api.Style) { s.Font = 640 }, "font-size 2em": func(s *api.Style) { s.Font = 2 * em }, "font-size 150%": func(s *api.Style) { s.Font = 960 }, "font-size 1cqw": func(s *api.Style) { s.Font = 4 * 64 }, "font-size 1cqmin": func(s *api.Style) { s.Font = 3 * 64 }, "font-size 0px": func(s *api.Style) { s.Font = 0 },
		"line-height normal": func(s *api.Style) { s.Line = 1200 }, "line-height 1.5": func(s *api.Style) { s.Line = 1500 }, "line-height 0": func(s *api.Style) { s.Line = 0 },
	} {
		parent := odd()
		s := nothing()
		s.Font, s.Line = parent.Font, parent.Line
		want(&s)
		if got := style.Compute(tell(t, told), parent, w, h); got != s {
			t.Errorf("%s: %+v, not %+v", told, got, s)
		}
	}
}

// TestEm: P17.2: lengths of em are measured by the element's own, wherever that comes from, the font size by the parent's.
func TestEm(t *testing.T) {
	const w, h = 100 * 64, 200 * 64
	for told, want := range map[string][2]int{
		"width 1em": {640, 640}, "width 1em, font-size 2em": {1280, 1280}, "width 1em, font-size 50%": {320, 320}, "width 1em, font-size 10cqb": {20 * 64, 20 * 64}, "width 2em, font-size 3px": {192, 384},
		"width 1em, font-size inherit": {640, 640}, "width 1em, font-size unset": {640, 640}, "width 1em, font-size initial": {1024, 1024},
	} {
		got := style.Compute(tell(t, told), api.Style{Font: 640}, w, h)
		if got.Font != want[0] || got.W.N != want[1] {
			t.Errorf("%s: %d, %d, not %v", told, got.Font, got.W.N, want)
		}
	}
	// Whatever is measured by it, be it told ahead of it or behind.
	for p := 1; p <= prop.Count; p++ {
		v := one(t, "3em")
		if !prop.Takes(p, v) || prop.Name(p) == "font-size" {
			continue
		}
		by := make([]api.Value, prop.Count)
		by[p-1], by[prop.Named("font-size")-1] = v, one(t, "2em")
		if got, want := style.Compute(by, api.Style{Font: 100}, 0, 0), style.Compute(tell(t, prop.Name(p)+" 9.375px, font-size 2em"), api.Style{Font: 100}, 0, 0); got != want || got.Font != 200 {
			t.Errorf("%s: %+v, not %+v", prop.Name(p), got, want)
		}
	}
}

// TestUp: P17.2: what is at least 0, where the em or the bases are below; a margin is not.
func TestUp(t *testing.T) {
	for p := 1; p <= prop.Count; p++ {
		name := prop.Name(p)
		for _, s := range []string{"1em", "1cqw", "1cqh", "1cqi", "1cqb", "1cqmin", "1cqmax"} {
			if !prop.Takes(p, one(t, s)) {
				continue
			}
			below := style.Compute(tell(t, name+" "+s), api.Style{Font: -6400}, -6400, -12800)
			if strings.HasPrefix(name, "margin") {
				n := map[string]int{"1em": -6400, "1cqw": -64, "1cqi": -64, "1cqh": -128, "1cqb": -128, "1cqmin": -128, "1cqmax": -64}[s]
				if got := below.Margin[p-prop.Named("margin-top")]; got != (api.Size{Kind: api.Fixed, N: n}) {
					t.Errorf("%s %s: %v, not %d", name, s, got, n)
				}
				continue
			}
			if none := style.Compute(tell(t, name+" 0px"), api.Style{Font: -6400}, 0, 0); below != none {
				t.Errorf("%s %s: %+v, not %+v", name, s, below, none)
			}
		}
	}
	if got := style.Compute(tell(t, "font-size 50%"), api.Style{Font: -6400}, 0, 0).Font; got != 0 {
		t.Errorf("half of an em below 0: %d", got)
	}
	// What is the parent's is the parent's, below 0 or beyond an end.
	for _, n := range ends() {
		for _, told := range []string{"font-size inherit", "font-size unset", "width 1px"} {
			if got := style.Compute(tell(t, told), api.Style{Font: n}, 0, 0).Font; got != n {
				t.Errorf("%s of %d: %d", told, n, got)
			}
		}
		if got, want := style.Compute(tell(t, "margin-top 2em"), api.Style{Font: n}, 0, 0).Margin[0].N, fix.Part(n, 2000, 1000); got != want {
			t.Errorf("two of %d: %d, not %d", n, got, want)
		}
		if got, want := style.Compute(tell(t, "font-size 150%"), api.Style{Font: n}, 0, 0).Font, max(0, fix.Percent(n, 150000)); got != want {
			t.Errorf("half as much again as %d: %d, not %d", n, got, want)
		}
		if got, want := style.Compute(tell(t, "margin-top 200cqmin"), api.Style{}, n, 1).Margin[0].N, fix.Percent(min(n, 1), 200000); got != want {
			t.Errorf("two of the base %d: %d, not %d", n, got, want)
		}
	}
}

// TestHas: P17.2: what a property has of one of the words that all take; all others have what they have where nothing is told.
func TestHas(t *testing.T) {
	parent, first := odd(), nothing()
	unset := first
	unset.Font, unset.Line = parent.Font, parent.Line
	for p := 1; p <= prop.Count; p++ {
		name := prop.Name(p)
		for text, from := range map[string]api.Style{"inherit": parent, "initial": first, "unset": unset} {
			want := unset
			carry(t, name, from, &want)
			if got := style.Compute(tell(t, name+" "+text), parent, 1, 2); got != want {
				t.Errorf("%s %s: %+v, not %+v", name, text, got, want)
			}
		}
	}
}

// TestNotTaken: P17.2: where a value is not taken nothing is told, nor beyond the list's end, nor beyond the properties'.
func TestNotTaken(t *testing.T) {
	parent := odd()
	want := style.Compute(nil, parent, 1, 2)
	bad := []api.Value{{}, {Kind: -1}, {Kind: 7}, {Kind: api.Word}, {Kind: api.Word, N: 31}, {Kind: api.Word, N: 1, D: 1}, {Kind: api.Word, N: -1}, {Kind: api.Length, N: 1}, {Kind: api.Length, N: 1, D: 9}, {Kind: api.Length, N: api.MaxLen + 1, D: 1}, {Kind: api.Length, N: 1, D: 1, Name: "a"}, {Kind: api.Percent, N: 1, D: 1}, {Kind: api.Number, N: least}, {Kind: api.Number, N: 1001, D: 1}, {Kind: api.Ratio, N: 1}, {Kind: api.Ratio, N: -1, D: 1}, {Kind: api.Name}, {Kind: api.Name, Name: "auto"}, {Kind: api.Name, Name: "1"}, {Kind: api.Name, N: 1, Name: "a"}}
	for p := 1; p <= prop.Count; p++ {
		l := slices.Clone(bad)
		for n := 1; value.Text(n) != ""; n++ {
			l = append(l, api.Value{Kind: api.Word, N: n})
		}
		for _, s := range []string{"1px", "-1px", "1%", "-1%", "1", "-1", "0.5", "1/2", "0/1", "a"} {
			l = append(l, one(t, s))
		}
		not := 0
		for _, v := range l {
			if prop.Takes(p, v) {
				continue
			}
			told := make([]api.Value, p)
			told[p-1] = v
			if got := style.Compute(told, parent, 1, 2); got != want {
				t.Errorf("%s %v: %+v, not %+v", prop.Name(p), v, got, want)
			}
			not++
		}
		if not < 15 {
			t.Errorf("%s does not take only %d", prop.Name(p), not)
		}
	}
	// Lists of any length.
	all := slices.Repeat([]api.Value{wordOf("inherit")}, 100)
	for n := range all {
		got, want := style.Compute(all[:n], parent, 1, 2), style.Compute(nil, parent, 1, 2)
		for p := 1; p <= min(n, prop.Count); p++ {
			carry(t, prop.Name(p), parent, &want)
		}
		if got != want {
			t.Errorf("of %d inherited: %+v, not %+v", n, got, want)
		}
	}
}

// TestSilent: what is handed in stays as it is.
func TestSilent(t *testing.T) {
	told := tell(t, "display flex, width 1em, font-size 2em, container-name a")
	was := slices.Clone(told)
	a := style.Compute(told, nothing(), 1, 2)
	if !slices.Equal(told, was) {
		t.Errorf("%v was %v", told, was)
	}
	if b := style.Compute(told, nothing(), 1, 2); a != b {
		t.Errorf("%+v, then %+v", a, b)
	}
}
