package sheet_test

import (
	"slices"
	"strings"
	"testing"

	"wainscot/api"
	"wainscot/sheet"
)

// TestPrint: P12.3: rules' texts.
func TestPrint(t *testing.T) {
	for _, c := range []struct {
		want string
		l    []api.Rule
	}{
		{"", nil},
		{"a { }", []api.Rule{rule("a")}},
		{"a > b, .c { order: 1; }", []api.Rule{rule("a>b,.c", decl("order", "1"))}},
		{"a { width: 1.5px !important; margin-top: -2%; aspect-ratio: 16 / 9; container-name: card; }", []api.Rule{rule("a", decl("width", "1.5px", true), decl("margin-top", "-2%"), decl("aspect-ratio", "16/9"), decl("container-name", "card"))}},
		{"@container (width > 9px) { a { } }", []api.Rule{within(rule("a"), "(width>9px)")}},
		{"@container card (height) { @container not (orientation: portrait) { a[b=\"c d\"] { order: 1; order: 2; } } }", []api.Rule{within(rule("a[b='c d']", decl("order", "1"), decl("order", "2")), "card (height)", "not (orientation:portrait)")}},
		{"a { } b { } @container (width) { c { } } @container (width) { d { } } e { }", []api.Rule{rule("a"), rule("b"), within(rule("c"), "(width)"), within(rule("d"), "(width)"), rule("e")}},
	} {
		for origin := range 2 {
			for i := range c.l {
				c.l[i].Origin = origin
			}
			was := deep(c.l)
			if got, e := sheet.Print(c.l); e != api.OK || got != c.want {
				t.Errorf("%q, %d, not %q", got, e, c.want)
			}
			if !sheet.Same(c.l, was) {
				t.Error("what was handed in is changed")
			}
		}
	}
}

// TestPrintWrong: P12.3: the errors, in their order.
func TestPrintWrong(t *testing.T) {
	fails := func(name string, l []api.Rule, want api.Errno) {
		t.Helper()
		if got, e := sheet.Print(l); e != want || got != "" {
			t.Errorf("%s: %d bytes, %d, not %d", name, len(got), e, want)
		}
	}
	wide := rule("a[b=\"" + strings.Repeat("x", 256) + "\"]")
	odd := []api.Rule{
		{}, {Origin: 2, Sels: sels("a")}, {Origin: -1, Sels: sels("a")}, {Sels: []api.Selector{{}}}, {Sels: slices.Repeat(sels("a"), 257)}, {Sels: sels("a"), Conds: []api.Query{{}}}, within(rule("a"), slices.Repeat([]string{"(width)"}, 5)...),
		rule("a", api.Decl{}), rule("a", api.Decl{Prop: 1, Value: decl("order", "1").Value}),
	}
	for _, r := range odd {
		fails("odd", []api.Rule{r}, api.ErrForm)
		fails("odd behind", []api.Rule{rule("a"), r}, api.ErrForm)
		fails("odd behind what is too long", append(slices.Repeat([]api.Rule{wide}, 255), r), api.ErrForm)
		fails("odd, and too many", append(slices.Repeat([]api.Rule{wide}, 256), r), api.ErrRules)
	}
	if got, e := sheet.Print(slices.Repeat([]api.Rule{rule("a")}, 256)); e != api.OK || got != strings.Repeat("a { } ", 256)[:256*6-1] {
		t.Error(got, e)
	}
	fails("too many", slices.Repeat([]api.Rule{rule("a")}, 257), api.ErrRules)
	fails("too many and too long", slices.Repeat([]api.Rule{wide}, 1<<12), api.ErrRules)
	fails("too long", slices.Repeat([]api.Rule{wide}, 256), api.ErrLong)
	// However much there is, it ends.
	full := rule(strings.Repeat("a"+strings.Repeat(".b", 8)+strings.Repeat("[c=d]", 8)+" ", 8))
	full.Sels = slices.Repeat(full.Sels, 256)
	full.Decls = slices.Repeat([]api.Decl{decl("order", "1", true)}, 1<<10)
	fails("much too long", slices.Repeat([]api.Rule{full}, 256), api.ErrLong)
}

// TestPrintLong: P12.3: how long a text may be.
func TestPrintLong(t *testing.T) {
	// Each one but the last is 64 bytes long with the blank behind it.
	one := rule("a[b=\"" + strings.Repeat("x", 64-len("a[b=\"\"] { } ")) + "\"]")
	for extra := range 10 {
		last := rule("a[b=\"" + strings.Repeat("x", 256-5+extra-len("a[b=\"\"] { }")) + "\"]")
		var l []api.Rule
		wide := rule("a[b=\"" + strings.Repeat("x", 256-len("a[b=\"\"] { } ")) + "\"]")
		l = append(slices.Repeat([]api.Rule{wide}, 126), one, one, one, one, last)
		n := 126*256 + 4*64 + 256 - 5 + extra
		got, e := sheet.Print(l)
		if n > api.MaxText {
			if e != api.ErrLong || got != "" {
				t.Errorf("%d: %d bytes, %d", n, len(got), e)
			}
			continue
		}
		if e != api.OK || len(got) != n {
			t.Errorf("%d: %d bytes, %d", n, len(got), e)
		}
		if back, e := sheet.Parse(got, 1); e != api.OK || !sheet.Same(back, l) {
			t.Errorf("%d: %d rules, %d", n, len(back), e)
		}
	}
}

// TestRoundTrip: P12.4, P12.6: what is printed is read as it was, one sheet behind the other, too.
func TestRoundTrip(t *testing.T) {
	c := chance(17)
	some := func() ([]api.Rule, string) {
		var l []api.Rule
		for range oneOf(&c, 0, 1, 2, 6, 20) {
			l = append(l, someRule(&c))
		}
		s, e := sheet.Print(l)
		if e != api.OK {
			t.Fatal(e, l)
		}
		return l, s
	}
	for range 1500 {
		a, s := some()
		b, r := some()
		reads(t, s, a...)
		for _, between := range []string{"", " ", "/**/", "@x;"} {
			reads(t, s+between+r, append(slices.Clone(a), b...)...)
		}
	}
}
