package sizing_test

import (
	"math"
	"testing"

	"wainscot/api"
	"wainscot/sizing"
)

const (
	least = math.MinInt
	most  = math.MaxInt
	end   = api.MaxLen
)

type (
	edit  = func(c *sizing.Case)
	sides = [4]int
)

// caseOf is a case of the style of nothing in a room of 6400, that is at least 1000 and at most 2250 wide by itself, with what is told done to it.
func caseOf(edits ...edit) sizing.Case {
	zero, none := fixed(0), kind(api.None)
	s := api.Style{MaxW: none, MaxH: none, Margin: [4]api.Size{zero, zero, zero, zero}, Pad: [4]api.Size{zero, zero, zero, zero}, Font: 1024, Line: 1200}
	c := sizing.Case{Style: s, Avail: 6400, Base: -1, Least: 1000, Most: 2250}
	for _, e := range edits {
		e(&c)
	}
	return c
}

// Sizes.

func fixed(n int) api.Size    { return api.Size{Kind: api.Fixed, N: n} }
func share(n int) api.Size    { return api.Size{Kind: api.Share, N: n} }
func kind(n int) api.Size     { return api.Size{Kind: n} }
func wide(z api.Size) edit    { return func(c *sizing.Case) { c.Style.W = z } }
func high(z api.Size) edit    { return func(c *sizing.Case) { c.Style.H = z } }
func minWide(z api.Size) edit { return func(c *sizing.Case) { c.Style.MinW = z } }
func minHigh(z api.Size) edit { return func(c *sizing.Case) { c.Style.MinH = z } }
func maxWide(z api.Size) edit { return func(c *sizing.Case) { c.Style.MaxW = z } }
func maxHigh(z api.Size) edit { return func(c *sizing.Case) { c.Style.MaxH = z } }

// What else a case has.

func avail(n int) edit         { return func(c *sizing.Case) { c.Avail = n } }
func base(n int) edit          { return func(c *sizing.Case) { c.Base = n } }
func own(least, most int) edit { return func(c *sizing.Case) { c.Least, c.Most = least, most } }
func ratio(n, d int) edit      { return func(c *sizing.Case) { c.Style.RatioN, c.Style.RatioD = n, d } }
func border(c *sizing.Case)    { c.Style.Border = true }

// margins, pads and edges go as the sides do: top, right, bottom, left.

func margins(top, right, bottom, left api.Size) edit {
	return func(c *sizing.Case) { c.Style.Margin = [4]api.Size{top, right, bottom, left} }
}

func pads(top, right, bottom, left api.Size) edit {
	return func(c *sizing.Case) { c.Style.Pad = [4]api.Size{top, right, bottom, left} }
}

func edges(top, right, bottom, left int) edit {
	return func(c *sizing.Case) { c.Style.Edge = sides{top, right, bottom, left} }
}

// around puts a frame that is 100 across and 30 down.
func around(c *sizing.Case) {
	pads(fixed(10), fixed(40), fixed(5), fixed(30))(c)
	edges(8, 20, 7, 10)(c)
}

// TestExamples: the chapter's own.
func TestExamples(t *testing.T) {
	zero := fixed(0)
	if got := sizing.Wide(caseOf(margins(zero, fixed(640), zero, fixed(640)))); got != 5120 {
		t.Errorf("%d", got)
	}
	half := []edit{wide(share(50000)), pads(zero, fixed(64), zero, fixed(64))}
	if got := sizing.Wide(caseOf(half...)); got != 3328 {
		t.Errorf("%d", got)
	}
	if got := sizing.Wide(caseOf(append(half, border)...)); got != 3200 {
		t.Errorf("%d", got)
	}
}

// TestOf: P20.1: the frame.
func TestOf(t *testing.T) {
	odd := []api.Size{kind(api.MinCont), kind(api.MaxCont), kind(api.FitCont), kind(api.None)}
	for i := range odd {
		odd[i].N = 77
	}
	for i, c := range []struct {
		c    sizing.Case
		want sizing.Frame
	}{
		{sizing.Case{}, sizing.Frame{Auto: [4]bool{true, true, true, true}}},
		{caseOf(), sizing.Frame{}},
		{caseOf(margins(fixed(1), fixed(2), fixed(3), fixed(4)), pads(fixed(5), fixed(6), fixed(7), fixed(8)), edges(9, 10, 11, 12)), sizing.Frame{Margin: sides{1, 2, 3, 4}, Pad: sides{5, 6, 7, 8}, Edge: sides{9, 10, 11, 12}}},
		// Percentages are of the room's width, of all four sides.
		{caseOf(margins(share(1000), share(50000), share(100000), share(-10000)), pads(share(1), share(100), share(200000), share(33333)), base(50)), sizing.Frame{Margin: sides{64, 3200, 6400, -640}, Pad: sides{0, 6, 12800, 2133}}},
		{caseOf(margins(share(-1), share(10000), share(0), share(-20000)), pads(share(10000), share(-10000), share(-1), share(0)), avail(-100)), sizing.Frame{Margin: sides{0, -10, 0, 20}, Pad: sides{0, 10, 0, 0}}},
		// Margins may be below 0, nothing else.
		{caseOf(margins(fixed(-1), fixed(-2), fixed(0), fixed(-4)), pads(fixed(-5), share(-6000), fixed(0), fixed(-8)), edges(-9, 0, -1, least)), sizing.Frame{Margin: sides{-1, -2, 0, -4}}},
		// Auto is told of margins alone.
		{caseOf(margins(kind(api.Auto), fixed(1), api.Size{Kind: api.Auto, N: 7}, fixed(2)), pads(kind(api.Auto), api.Size{Kind: api.Auto, N: 7}, fixed(1), fixed(2))), sizing.Frame{Margin: sides{0, 1, 0, 2}, Auto: [4]bool{true, false, true, false}, Pad: sides{0, 0, 1, 2}}},
		{caseOf(margins(odd[0], odd[1], odd[2], odd[3]), pads(odd[3], odd[2], odd[1], odd[0])), sizing.Frame{}},
		{caseOf(margins(api.Size{Kind: 7, N: 7}, api.Size{Kind: -1, N: 7}, api.Size{Kind: most, N: 7}, api.Size{Kind: least, N: 7}), pads(api.Size{Kind: 7, N: 7}, api.Size{Kind: -1, N: 7}, api.Size{Kind: most, N: 7}, api.Size{Kind: least, N: 7})), sizing.Frame{}},
		// Numbers are held.
		{caseOf(margins(fixed(most), fixed(least), fixed(end+1), fixed(-end-1)), pads(fixed(most), fixed(1<<32+1), fixed(end), fixed(least)), edges(most, 1<<32+1, end, end+1)), sizing.Frame{Margin: sides{end, -end, end, -end}, Pad: sides{end, end, end, 0}, Edge: sides{end, end, end, end}}},
		{caseOf(margins(share(most), share(100000), share(50000), share(least)), pads(share(most), share(100000), share(50000), share(least)), avail(most)), sizing.Frame{Margin: sides{end, end, end / 2, -end}, Pad: sides{end, end, end / 2, 0}}},
		{caseOf(margins(share(100000), share(-100000), share(50000), share(1)), avail(least)), sizing.Frame{Margin: sides{-end, end, -end / 2, -10738}}},
	} {
		if got := sizing.Of(c.c); got != c.want {
			t.Errorf("%d: %+v, not %+v", i, got, c.want)
		}
	}
}

// TestAround: P20.1: across the left and the right, down the top and the bottom ones.
func TestAround(t *testing.T) {
	for i, c := range []struct {
		c    sizing.Case
		w, h int
	}{
		{sizing.Case{}, 0, 0}, {caseOf(), 0, 0}, {caseOf(around), 100, 45 - 15},
		{caseOf(pads(fixed(1), fixed(20), fixed(300), fixed(4000))), 4020, 301}, {caseOf(edges(1, 20, 300, 4000)), 4020, 301}, {caseOf(pads(fixed(1), fixed(20), fixed(300), fixed(4000)), edges(2, 40, 600, 8000)), 12060, 903},
		// Margins are not in it, nor what is below 0, nor does Border change it.
		{caseOf(around, margins(fixed(1), fixed(2), fixed(3), fixed(4)), border), 100, 30}, {caseOf(pads(fixed(-1), fixed(-20), fixed(300), fixed(4000)), edges(7, 8, -9, -10)), 4008, 307},
		{caseOf(pads(share(1000), share(2000), share(3000), share(4000)), base(1)), 384, 256},
		{caseOf(pads(fixed(end), fixed(end), fixed(end-1), fixed(0))), end, end}, {caseOf(pads(fixed(0), fixed(end-5), fixed(0), fixed(0)), edges(most, 3, most, 2)), end, end}, {caseOf(edges(end/2, end/2, end/2-1, end/2)), end, end - 1},
	} {
		if w, h := sizing.Around(c.c); w != c.w || h != c.h {
			t.Errorf("%d: %d, %d, not %d, %d", i, w, h, c.w, c.h)
		}
	}
}

// told is what a size says, if it says something.
type told struct {
	n    int
	some bool
}

// TestSaysW: P20.2: what a size says of the width.
func TestSaysW(t *testing.T) {
	nothing := told{}
	for i, c := range []struct {
		c    sizing.Case
		z    api.Size
		want told
	}{
		{caseOf(), kind(api.Auto), nothing}, {caseOf(), kind(api.None), nothing}, {caseOf(), kind(7), nothing}, {caseOf(), kind(-1), nothing}, {caseOf(), kind(most), nothing}, {caseOf(around, border), api.Size{Kind: api.Auto, N: 640}, nothing},
		{caseOf(), fixed(640), told{640, true}}, {caseOf(), fixed(0), told{0, true}}, {caseOf(), fixed(-640), told{0, true}}, {caseOf(), share(50000), told{3200, true}}, {caseOf(), share(-1), told{0, true}}, {caseOf(), share(150000), told{9600, true}},
		// As a box: with what is around it, or, with Border, at least that.
		{caseOf(around), fixed(640), told{740, true}}, {caseOf(around), fixed(-640), told{100, true}}, {caseOf(around), share(50000), told{3300, true}}, {caseOf(around), share(-50000), told{100, true}},
		{caseOf(around, border), fixed(640), told{640, true}}, {caseOf(around, border), fixed(100), told{100, true}}, {caseOf(around, border), fixed(99), told{100, true}}, {caseOf(around, border), fixed(-640), told{100, true}}, {caseOf(around, border), share(50000), told{3200, true}}, {caseOf(around, border), share(1000), told{100, true}},
		// Of a room below 0 too.
		{caseOf(avail(-1)), share(50000), told{0, true}}, {caseOf(avail(-640), around), share(50000), told{100, true}}, {caseOf(avail(-640), around), share(-50000), told{420, true}}, {caseOf(avail(-640), border), share(-50000), told{320, true}}, {caseOf(avail(0)), share(50000), told{0, true}},
		// Its own widths are a box's already.
		{caseOf(around), kind(api.MinCont), told{1000, true}}, {caseOf(around), kind(api.MaxCont), told{2250, true}}, {caseOf(around, border), kind(api.MinCont), told{1000, true}}, {caseOf(around, own(7, 8)), kind(api.MinCont), told{7, true}}, {caseOf(around, own(7, 8)), kind(api.MaxCont), told{8, true}}, {caseOf(), api.Size{Kind: api.MinCont, N: 640}, told{1000, true}},
		{caseOf(own(-7, -8)), kind(api.MinCont), told{0, true}}, {caseOf(own(-7, -8)), kind(api.MaxCont), told{0, true}}, {caseOf(own(most, least)), kind(api.MinCont), told{end, true}}, {caseOf(own(least, most)), kind(api.MaxCont), told{end, true}},
		// What is kept does not count here.
		{caseOf(minWide(fixed(1000)), maxWide(fixed(10))), fixed(640), told{640, true}}, {caseOf(wide(fixed(1))), fixed(640), told{640, true}},
		{caseOf(), fixed(most), told{end, true}}, {caseOf(around), fixed(end), told{end, true}}, {caseOf(around, border), fixed(least), told{100, true}}, {caseOf(avail(most)), share(50000), told{end / 2, true}}, {caseOf(avail(least)), share(-50000), told{end / 2, true}}, {caseOf(avail(most)), share(most), told{end, true}},
	} {
		if n, some := sizing.SaysW(c.c, c.z); n != c.want.n || some != c.want.some {
			t.Errorf("%d: %v: %d, %v, not %v", i, c.z, n, some, c.want)
		}
	}
}

// TestFitted: P20.2: the greater one of Least and the lesser one of Most and the free width.
func TestFitted(t *testing.T) {
	fit := kind(api.FitCont)
	zero := fixed(0)
	beside := func(left, right api.Size) edit { return margins(fixed(7), right, fixed(9), left) }
	for i, c := range []struct {
		c    sizing.Case
		want int
	}{
		{caseOf(), 2250}, {caseOf(avail(2250)), 2250}, {caseOf(avail(2249)), 2249}, {caseOf(avail(1001)), 1001}, {caseOf(avail(1000)), 1000}, {caseOf(avail(999)), 1000}, {caseOf(avail(-5)), 1000}, {caseOf(avail(least)), 1000},
		// Where Least is above Most, Least counts.
		{caseOf(own(3000, 2000)), 3000}, {caseOf(own(3000, 2000), avail(100)), 3000}, {caseOf(own(-1, -1)), 0}, {caseOf(own(-1, 500), avail(200)), 200},
		// The free width is less by the margins, of Auto by nothing, and at least what is around.
		{caseOf(avail(2000), beside(fixed(100), fixed(20))), 1880}, {caseOf(avail(2000), beside(fixed(-100), fixed(-20))), 2120}, {caseOf(avail(2000), beside(share(10000), share(5000))), 1700}, {caseOf(avail(2000), beside(kind(api.Auto), fixed(20))), 1980}, {caseOf(avail(2000), beside(kind(api.None), zero)), 2000}, {caseOf(avail(2000), margins(fixed(50), zero, fixed(50), zero)), 2000},
		{caseOf(avail(-5), own(0, 2250)), 0}, {caseOf(avail(90), own(0, 2250), around), 100}, {caseOf(avail(110), own(0, 2250), around), 110}, {caseOf(avail(110), own(0, 2250), around, border), 110}, {caseOf(avail(110), own(0, 2250), around, beside(fixed(5), fixed(6))), 100}, {caseOf(avail(110), own(0, 20), around), 20},
		// One margin behind the other, each difference held.
		{caseOf(avail(most), own(0, most)), end}, {caseOf(avail(end), own(0, end), beside(fixed(-64), fixed(64))), end - 64}, {caseOf(avail(end), own(0, end), beside(fixed(64), fixed(-64))), end}, {caseOf(avail(most), own(0, most), beside(fixed(most), fixed(most))), 0}, {caseOf(avail(least), own(0, most), beside(fixed(most), fixed(least))), 0}, {caseOf(avail(least), own(0, most), beside(fixed(least), fixed(-7))), 7},
	} {
		if n, some := sizing.SaysW(c.c, fit); n != c.want || !some {
			t.Errorf("%d: %d, %v, not %d", i, n, some, c.want)
		}
	}
}

// TestSaysH: P20.2: what a size says of the height.
func TestSaysH(t *testing.T) {
	nothing := told{}
	for i, c := range []struct {
		c    sizing.Case
		z    api.Size
		want told
	}{
		{caseOf(), kind(api.Auto), nothing}, {caseOf(), kind(api.None), nothing}, {caseOf(base(640)), kind(api.MinCont), nothing}, {caseOf(base(640)), kind(api.MaxCont), nothing}, {caseOf(base(640)), kind(api.FitCont), nothing}, {caseOf(), kind(7), nothing}, {caseOf(), kind(-1), nothing}, {caseOf(around, base(640)), api.Size{Kind: api.MinCont, N: 640}, nothing},
		{caseOf(), fixed(640), told{640, true}}, {caseOf(), fixed(0), told{0, true}}, {caseOf(), fixed(-640), told{0, true}}, {caseOf(around), fixed(640), told{670, true}}, {caseOf(around), fixed(-1), told{30, true}}, {caseOf(around, border), fixed(640), told{640, true}}, {caseOf(around, border), fixed(29), told{30, true}}, {caseOf(around, border), fixed(-5), told{30, true}},
		// A percentage of a height that is known.
		{caseOf(base(640)), share(50000), told{320, true}}, {caseOf(base(640), around), share(50000), told{350, true}}, {caseOf(base(640), around, border), share(50000), told{320, true}}, {caseOf(base(640), around, border), share(1000), told{30, true}}, {caseOf(base(640), around), share(-50000), told{30, true}}, {caseOf(base(0)), share(50000), told{0, true}}, {caseOf(base(0), around), share(50000), told{30, true}},
		{caseOf(base(-1)), share(50000), nothing}, {caseOf(base(-1), around), share(-50000), nothing}, {caseOf(base(least), around, border), share(50000), nothing}, {caseOf(base(-1)), share(0), nothing},
		{caseOf(), fixed(most), told{end, true}}, {caseOf(around), fixed(end - 5), told{end, true}}, {caseOf(base(most)), share(50000), told{end / 2, true}}, {caseOf(base(most)), share(most), told{end, true}}, {caseOf(minHigh(fixed(999)), maxHigh(fixed(1))), fixed(640), told{640, true}},
	} {
		if n, some := sizing.SaysH(c.c, c.z); n != c.want.n || some != c.want.some {
			t.Errorf("%d: %v: %d, %v, not %v", i, c.z, n, some, c.want)
		}
	}
}

// kept is a length that is kept.
type kept struct {
	c       sizing.Case
	n, want int
}

// TestKeepW: P20.2: at most what MaxW says, then at least what MinW says, then at least what is around.
func TestKeepW(t *testing.T) {
	for i, c := range []kept{
		{caseOf(), 640, 640}, {caseOf(), 0, 0}, {caseOf(), -5, 0}, {caseOf(around), 640, 640}, {caseOf(around), 100, 100}, {caseOf(around), 99, 100}, {caseOf(around, border), -99, 100}, {sizing.Case{}, 640, 640},
		{caseOf(maxWide(fixed(500))), 640, 500}, {caseOf(maxWide(fixed(500))), 500, 500}, {caseOf(maxWide(fixed(500))), 499, 499}, {caseOf(minWide(fixed(700))), 640, 700}, {caseOf(minWide(fixed(700))), 700, 700}, {caseOf(minWide(fixed(700))), 701, 701},
		// Where both can't be, MinW counts, and what is around in any case.
		{caseOf(minWide(fixed(700)), maxWide(fixed(500))), 640, 700}, {caseOf(minWide(fixed(700)), maxWide(fixed(500))), 999, 700}, {caseOf(minWide(fixed(700)), maxWide(fixed(500))), 3, 700}, {caseOf(around, border, maxWide(fixed(50))), 640, 100}, {caseOf(around, border, minWide(fixed(50))), 7, 100},
		// As boxes.
		{caseOf(around, maxWide(fixed(500))), 640, 600}, {caseOf(around, maxWide(fixed(500)), border), 640, 500}, {caseOf(around, minWide(fixed(700))), 640, 800}, {caseOf(around, minWide(fixed(700)), border), 640, 700}, {caseOf(around, maxWide(fixed(-5))), 640, 100}, {caseOf(minWide(fixed(-5))), -640, 0},
		{caseOf(maxWide(share(5000))), 640, 320}, {caseOf(minWide(share(50000))), 640, 3200}, {caseOf(avail(-640), maxWide(share(5000))), 640, 0}, {caseOf(avail(-640), minWide(share(-50000))), 64, 320}, {caseOf(base(100), maxWide(share(5000))), 640, 320},
		// Its own widths.
		{caseOf(maxWide(kind(api.MinCont))), 2000, 1000}, {caseOf(maxWide(kind(api.MaxCont))), 9000, 2250}, {caseOf(maxWide(kind(api.FitCont)), avail(1500)), 9000, 1500}, {caseOf(minWide(kind(api.MinCont))), 7, 1000}, {caseOf(minWide(kind(api.MaxCont))), 7, 2250}, {caseOf(minWide(kind(api.FitCont)), avail(1500)), 7, 1500}, {caseOf(around, maxWide(kind(api.MinCont)), own(5, 9)), 640, 100},
		// Of a size that says nothing.
		{caseOf(minWide(kind(api.None)), maxWide(kind(api.Auto))), 640, 640}, {caseOf(minWide(api.Size{Kind: 7, N: 999}), maxWide(api.Size{Kind: -1, N: 1})), 640, 640},
		// W, the heights and the ratio are not asked.
		{caseOf(wide(fixed(3)), high(fixed(4)), minHigh(fixed(9999)), maxHigh(fixed(1)), ratio(1000, 1000)), 640, 640},
		{caseOf(), most, end}, {caseOf(), least, 0}, {caseOf(maxWide(fixed(most))), most, end}, {caseOf(minWide(fixed(most))), 640, end}, {caseOf(around, minWide(fixed(end))), least, end},
	} {
		if got := sizing.KeepW(c.c, c.n); got != c.want {
			t.Errorf("%d: %d: %d, not %d", i, c.n, got, c.want)
		}
	}
}

// TestKeepH: P20.2, of heights likewise.
func TestKeepH(t *testing.T) {
	for i, c := range []kept{
		{caseOf(), 640, 640}, {caseOf(), 0, 0}, {caseOf(), -5, 0}, {caseOf(around), 640, 640}, {caseOf(around), 30, 30}, {caseOf(around), 29, 30}, {caseOf(around, border), -99, 30}, {sizing.Case{}, 640, 640},
		{caseOf(maxHigh(fixed(500))), 640, 500}, {caseOf(maxHigh(fixed(500))), 500, 500}, {caseOf(maxHigh(fixed(500))), 499, 499}, {caseOf(minHigh(fixed(700))), 640, 700}, {caseOf(minHigh(fixed(700))), 701, 701},
		{caseOf(minHigh(fixed(700)), maxHigh(fixed(500))), 640, 700}, {caseOf(minHigh(fixed(700)), maxHigh(fixed(500))), 999, 700}, {caseOf(around, border, maxHigh(fixed(20))), 640, 30}, {caseOf(around, border, minHigh(fixed(20))), 7, 30},
		{caseOf(around, maxHigh(fixed(500))), 640, 530}, {caseOf(around, maxHigh(fixed(500)), border), 640, 500}, {caseOf(around, minHigh(fixed(700))), 640, 730}, {caseOf(around, minHigh(fixed(700)), border), 640, 700}, {caseOf(around, maxHigh(fixed(-5))), 640, 30}, {caseOf(minHigh(fixed(-5))), -640, 0},
		// Percentages of a height that is not known say nothing.
		{caseOf(maxHigh(share(5000)), base(6400)), 640, 320}, {caseOf(minHigh(share(50000)), base(6400)), 640, 3200}, {caseOf(maxHigh(share(5000))), 640, 640}, {caseOf(minHigh(share(50000))), 640, 640}, {caseOf(maxHigh(share(5000)), base(0)), 640, 0},
		{caseOf(minHigh(kind(api.MinCont)), maxHigh(kind(api.MinCont))), 640, 640}, {caseOf(minHigh(kind(api.MaxCont)), maxHigh(kind(api.MaxCont))), 9640, 9640}, {caseOf(minHigh(kind(api.FitCont)), maxHigh(kind(api.FitCont))), 640, 640}, {caseOf(minHigh(kind(api.None)), maxHigh(kind(api.Auto))), 640, 640},
		{caseOf(high(fixed(3)), wide(fixed(4)), minWide(fixed(9999)), maxWide(fixed(1)), ratio(1000, 1000)), 640, 640},
		{caseOf(), most, end}, {caseOf(), least, 0}, {caseOf(maxHigh(fixed(most))), most, end}, {caseOf(minHigh(fixed(most))), 640, end}, {caseOf(around, minHigh(fixed(end))), least, end},
	} {
		if got := sizing.KeepH(c.c, c.n); got != c.want {
			t.Errorf("%d: %d: %d, not %d", i, c.n, got, c.want)
		}
	}
}

// TestGiven: P20.2: what H says, kept down.
func TestGiven(t *testing.T) {
	nothing := told{}
	for i, c := range []struct {
		c    sizing.Case
		want told
	}{
		{sizing.Case{}, nothing}, {caseOf(), nothing}, {caseOf(high(kind(api.Auto)), minHigh(fixed(640)), around), nothing}, {caseOf(high(kind(api.None))), nothing}, {caseOf(high(kind(api.MaxCont)), base(640)), nothing}, {caseOf(high(share(50000))), nothing}, {caseOf(high(share(50000)), minHigh(fixed(640)), around, ratio(1000, 1000), wide(fixed(640))), nothing}, {caseOf(high(kind(9))), nothing},
		{caseOf(high(fixed(640))), told{640, true}}, {caseOf(high(fixed(640)), around), told{670, true}}, {caseOf(high(fixed(640)), around, border), told{640, true}}, {caseOf(high(fixed(-640)), around), told{30, true}}, {caseOf(high(fixed(0))), told{0, true}}, {caseOf(high(share(50000)), base(640)), told{320, true}}, {caseOf(high(share(50000)), base(0), around), told{30, true}},
		{caseOf(high(fixed(640)), maxHigh(fixed(500))), told{500, true}}, {caseOf(high(fixed(640)), minHigh(fixed(700)), around), told{730, true}}, {caseOf(high(fixed(640)), minHigh(fixed(700)), maxHigh(fixed(500))), told{700, true}}, {caseOf(high(fixed(640)), maxHigh(share(50000))), told{640, true}}, {caseOf(high(fixed(640)), maxHigh(share(50000)), base(64)), told{32, true}},
		{caseOf(high(fixed(most))), told{end, true}}, {caseOf(high(fixed(least))), told{0, true}},
	} {
		if n, some := sizing.Given(c.c); n != c.want.n || some != c.want.some {
			t.Errorf("%d: %d, %v, not %v", i, n, some, c.want)
		}
	}
}

// TestWide: P20.3.
func TestWide(t *testing.T) {
	zero, auto := fixed(0), kind(api.Auto)
	for i, c := range []struct {
		c    sizing.Case
		want int
	}{
		// Nothing said: the free width.
		{sizing.Case{}, 0}, {sizing.Case{Avail: 640}, 640}, {caseOf(), 6400}, {caseOf(around), 6400}, {caseOf(around, border), 6400}, {caseOf(around, avail(50)), 100}, {caseOf(avail(-50)), 0}, {caseOf(margins(zero, fixed(100), zero, fixed(20))), 6280}, {caseOf(margins(zero, fixed(-100), zero, auto)), 6500}, {caseOf(wide(kind(api.None))), 6400}, {caseOf(wide(kind(7))), 6400},
		// What W says.
		{caseOf(wide(fixed(640))), 640}, {caseOf(wide(fixed(640)), around), 740}, {caseOf(wide(fixed(640)), around, border), 640}, {caseOf(wide(fixed(-5))), 0}, {caseOf(wide(share(50000))), 3200}, {caseOf(wide(share(50000)), avail(-640)), 0}, {caseOf(wide(kind(api.MinCont))), 1000}, {caseOf(wide(kind(api.MaxCont))), 2250}, {caseOf(wide(kind(api.FitCont)), avail(1500)), 1500}, {caseOf(wide(fixed(9999)), margins(zero, fixed(100), zero, fixed(20))), 9999},
		// A height turned: twice as wide as high, three times.
		{caseOf(high(fixed(640)), ratio(2000, 1000)), 1280}, {caseOf(high(fixed(640)), ratio(1000, 3000)), 213}, {caseOf(high(fixed(640)), ratio(2000, 1000), around), 1380}, {caseOf(high(fixed(640)), ratio(2000, 1000), around, border), 1280}, {caseOf(high(fixed(20)), ratio(2000, 1000), around, border), 100}, {caseOf(high(fixed(0)), ratio(2000, 1000), around), 100}, {caseOf(high(fixed(640)), maxHigh(fixed(500)), ratio(2000, 1000)), 1000}, {caseOf(high(share(50000)), base(640), ratio(2000, 1000)), 640},
		// W counts ahead of it, and it ahead of the free width, where the ratio counts and a height is given.
		{caseOf(wide(fixed(640)), high(fixed(640)), ratio(2000, 1000)), 640}, {caseOf(wide(kind(api.MinCont)), high(fixed(640)), ratio(2000, 1000)), 1000}, {caseOf(high(share(50000)), ratio(2000, 1000)), 6400}, {caseOf(minHigh(fixed(640)), ratio(2000, 1000)), 6400}, {caseOf(high(fixed(640)), ratio(0, 1000)), 6400}, {caseOf(high(fixed(640)), ratio(1000, 0)), 6400}, {caseOf(high(fixed(640)), ratio(-1000, -1000)), 6400}, {caseOf(high(fixed(640)), ratio(1000, -1)), 6400}, {caseOf(high(fixed(640))), 6400}, {caseOf(high(fixed(640)), ratio(1, 1)), 640},
		// Kept across, all of it.
		{caseOf(maxWide(fixed(640))), 640}, {caseOf(minWide(fixed(9999))), 9999}, {caseOf(wide(fixed(640)), maxWide(fixed(500))), 500}, {caseOf(wide(fixed(640)), maxWide(fixed(500)), minWide(fixed(700))), 700}, {caseOf(high(fixed(640)), ratio(2000, 1000), maxWide(fixed(500))), 500}, {caseOf(wide(kind(api.MinCont)), own(5, 9), around), 100}, {caseOf(maxWide(kind(api.MaxCont))), 2250},
		{caseOf(avail(most)), end}, {caseOf(avail(least)), 0}, {caseOf(wide(fixed(most)), around), end}, {caseOf(high(fixed(most)), ratio(most, 1)), end}, {caseOf(high(fixed(640)), ratio(1, most)), 0}, {caseOf(high(fixed(640)), ratio(most, most)), 640},
	} {
		if got := sizing.Wide(c.c); got != c.want {
			t.Errorf("%d: %d, not %d", i, got, c.want)
		}
	}
}

// TestSides: P20.4.
func TestSides(t *testing.T) {
	auto := kind(api.Auto)
	beside := func(left, right api.Size) edit { return margins(auto, right, fixed(9), left) }
	for i, c := range []struct {
		c           sizing.Case
		w           int
		left, right int
	}{
		// As they are.
		{caseOf(), 640, 0, 0}, {caseOf(beside(fixed(3), fixed(5))), 640, 3, 5}, {caseOf(beside(fixed(-3), share(50000))), 640, -3, 3200}, {caseOf(beside(kind(api.None), kind(7))), 640, 0, 0}, {caseOf(beside(fixed(most), fixed(least))), 640, end, -end},
		// Both: halved, the odd 64th to the right.
		{caseOf(beside(auto, auto)), 640, 2880, 2880}, {caseOf(beside(auto, auto)), 641, 2879, 2880}, {caseOf(beside(auto, auto)), 6399, 0, 1}, {caseOf(beside(auto, auto)), 6400, 0, 0}, {caseOf(beside(auto, auto)), 6401, 0, 0}, {caseOf(beside(auto, auto)), 99999, 0, 0}, {caseOf(beside(auto, auto), avail(-7)), -10, 1, 2}, {caseOf(beside(auto, auto), avail(-7)), 0, 0, 0}, {sizing.Case{Avail: 7}, 0, 3, 4},
		// One: what is left less the other one.
		{caseOf(beside(auto, fixed(100))), 640, 5660, 100}, {caseOf(beside(fixed(100), auto)), 640, 100, 5660}, {caseOf(beside(auto, fixed(5760))), 640, 0, 5760}, {caseOf(beside(auto, fixed(5761))), 640, 0, 5761}, {caseOf(beside(fixed(9999), auto)), 640, 9999, 0}, {caseOf(beside(auto, fixed(-100))), 640, 5860, -100}, {caseOf(beside(share(10000), auto)), 640, 640, 5120},
		// What is left is at least 0 by itself.
		{caseOf(beside(auto, fixed(-100))), 6450, 100, -100}, {caseOf(beside(fixed(-100), auto)), 9999, -100, 100}, {caseOf(beside(fixed(100), auto)), 6450, 100, 0}, {caseOf(beside(auto, fixed(0))), 6450, 0, 0},
		// What is around and Border are not asked.
		{caseOf(beside(auto, auto), around), 640, 2880, 2880}, {caseOf(beside(auto, auto), around, border, wide(fixed(5))), 640, 2880, 2880},
		{caseOf(beside(auto, auto), avail(most)), 0, end / 2, end / 2}, {caseOf(beside(auto, auto), avail(most)), least, end / 2, end / 2}, {caseOf(beside(auto, auto), avail(least)), most, 0, 0}, {caseOf(beside(auto, fixed(least)), avail(most)), 0, end, -end}, {caseOf(beside(auto, auto), avail(most)), most, 0, 0}, {caseOf(beside(auto, auto), avail(1)), most, 0, 0},
	} {
		if left, right := sizing.Sides(c.c, c.w); left != c.left || right != c.right {
			t.Errorf("%d: %d: %d, %d, not %d, %d", i, c.w, left, right, c.left, c.right)
		}
	}
}

// TestHigh: P20.5.
func TestHigh(t *testing.T) {
	for i, c := range []struct {
		c                sizing.Case
		w, content, want int
	}{
		// The content, and what is around it, with Border or not.
		{sizing.Case{}, 640, 64, 64}, {caseOf(), 640, 64, 64}, {caseOf(), 640, 0, 0}, {caseOf(), 640, -5, 0}, {caseOf(around), 640, 64, 94}, {caseOf(around), 640, -64, 30}, {caseOf(around, border), 640, 64, 94}, {caseOf(around, border), 640, 0, 30}, {caseOf(high(share(50000)), around), 640, 64, 94}, {caseOf(high(kind(api.MaxCont)), around), 640, 64, 94},
		// The given one.
		{caseOf(high(fixed(128))), 640, 64, 128}, {caseOf(high(fixed(12))), 640, 64, 12}, {caseOf(high(fixed(128)), around), 640, 64, 158}, {caseOf(high(fixed(128)), around, border), 640, 64, 128}, {caseOf(high(share(50000)), base(256)), 640, 64, 128}, {caseOf(high(fixed(128)), ratio(1000, 1000)), 640, 64, 128}, {caseOf(high(fixed(128)), maxHigh(fixed(100))), 640, 64, 100},
		// The width turned.
		{caseOf(ratio(2000, 1000)), 640, 64, 320}, {caseOf(ratio(3000, 1000)), 640, 64, 213}, {caseOf(ratio(1000, 3000)), 640, 64, 1920}, {caseOf(ratio(2000, 1000), around), 640, 64, 300}, {caseOf(ratio(2000, 1000), around, border), 640, 64, 320}, {caseOf(ratio(2000, 1000), around), 90, 64, 30}, {caseOf(ratio(2000, 1000), around, border), 40, 64, 30}, {caseOf(ratio(2000, 1000)), 0, 64, 0}, {caseOf(ratio(2000, 1000)), -640, 64, 0}, {caseOf(ratio(2000, 1000), around, border), -640, 64, 30}, {caseOf(ratio(2000, 1000), high(share(50000))), 640, 64, 320},
		// A ratio that does not count.
		{caseOf(ratio(0, 1000)), 640, 64, 64}, {caseOf(ratio(1000, 0)), 640, 64, 64}, {caseOf(ratio(-1000, 1000)), 640, 64, 64}, {caseOf(ratio(-1000, -1000)), 640, 64, 64}, {caseOf(ratio(1, 1)), 640, 64, 640},
		// Kept down, all of it.
		{caseOf(maxHigh(fixed(50))), 640, 64, 50}, {caseOf(minHigh(fixed(99))), 640, 64, 99}, {caseOf(minHigh(fixed(99)), around), 640, 64, 129}, {caseOf(minHigh(fixed(99)), maxHigh(fixed(50))), 640, 64, 99}, {caseOf(ratio(2000, 1000), maxHigh(fixed(50))), 640, 64, 50}, {caseOf(ratio(2000, 1000), minHigh(fixed(500))), 640, 64, 500}, {caseOf(around, border, maxHigh(fixed(5))), 640, 64, 30}, {caseOf(minHigh(share(50000))), 640, 64, 64}, {caseOf(minHigh(share(50000)), base(640)), 640, 64, 320},
		{caseOf(), 640, most, end}, {caseOf(around), 640, end, end}, {caseOf(around), 640, least, 30}, {caseOf(ratio(1, most)), 640, 64, end}, {caseOf(ratio(most, 1)), 640, 64, 0}, {caseOf(ratio(1, 1)), most, 64, end}, {caseOf(ratio(1, 1), border), least, 64, 0}, {caseOf(ratio(most, most)), 640, 64, 640},
	} {
		if got := sizing.High(c.c, c.w, c.content); got != c.want {
			t.Errorf("%d: %d, %d: %d, not %d", i, c.w, c.content, got, c.want)
		}
	}
}
