package lay_test

import (
	"testing"

	"wainscot/api"
	"wainscot/axis"
	"wainscot/lay"
)

// stack is a column, 300 wide.
func stack(box ...edit) on {
	return at(0, append([]edit{flex, dir(axis.Column), wide(300)}, box...)...)
}

// heightIn fails if the first kid of a column is not as high as asked for; the column is as high as told, or by what is in it, if that is below 0.
func heightIn(t *testing.T, room, want int, do ...edit) {
	t.Helper()
	l := page(t, `a{b{"ab"}}`) // it is 100 high by itself
	s := styles(len(l), stack(high(room)), at(1, do...))
	if room < 0 {
		s[0].H = api.Size{}
	}
	if boxes := lay.Lay(l, s, api.View{W: 1000, H: 500}); boxes[1].H != want {
		t.Errorf("in %d: %d, not %d", room, boxes[1].H, want)
	}
}

// TestColumnWidths: P24.1: how wide an item of a column is, and its place across.
func TestColumnWidths(t *testing.T) {
	c := func(want string, box []edit, item ...edit) laid {
		return laid{`a{b{"ab cd"}}`, do(stack(box...), at(1, item...)), want}
	}
	const all, fits = "0 0 300 100, 0 0 300 100, 0 0 225 100 1", "0 0 300 100, 0 0 225 100, 0 0 225 100 1"
	odd := kind(7)
	check(t, []laid{
		c(all, nil), c(fits, []edit{items(1)}), c(fits, nil, self(2)), c(all, []edit{items(1)}, self(1)), c(fits, []edit{items(9)}), c(fits, []edit{items(-1)}), c("0 0 300 100, 75 0 225 100, 75 0 225 100 1", nil, self(3)), c("0 0 300 100, 37 0 225 100, 37 0 225 100 1", nil, self(4)),
		// Margins that take what is free: the first one has the odd 64th.
		c("0 0 300 100, 75 0 225 100, 75 0 225 100 1", nil, auto(api.Left)), c(fits, nil, auto(api.Right)), c("0 0 300 100, 38 0 225 100, 38 0 225 100 1", nil, auto(api.Left, api.Right)), c(all, nil, auto(api.Top)), c("0 0 300 100, 10 0 270 100, 10 0 225 100 1", nil, margins(0, 20, 0, 10)), c("0 0 300 100, 55 0 225 100, 55 0 225 100 1", nil, margins(0, 20, 0, 10), self(3)),
		// Its content's width is fitted into the room, and kept.
		c("0 0 150 200, 0 0 150 200, 0 0 100 200 2", []edit{wide(150), items(1)}), c("0 0 50 200, 0 0 100 200, 0 0 100 200 2", []edit{wide(50), items(1)}), c("0 0 50 200, -50 0 100 200, -50 0 100 200 2", []edit{wide(50), items(2)}), c("0 0 300 200, 0 0 200 200, 0 0 100 200 2", []edit{items(1)}, maxWide(200)), c("0 0 300 100, 0 0 250 100, 0 0 225 100 1", []edit{items(1)}, minWide(250)), c("0 0 300 100, 0 0 255 100, 20 0 225 100 1", []edit{items(1)}, pads(0, 10, 0, 20)),
		// Who says how wide it is is so wide.
		c("0 0 300 200, 0 0 50 200, 0 0 100 200 2", nil, wide(50)), c("0 0 300 200, 125 0 50 200, 125 0 100 200 2", nil, wide(50), self(4)), c("0 0 300 200, 0 0 150 200, 0 0 100 200 2", []edit{items(1)}, wideAs(half())), c("0 0 300 200, 0 0 100 200, 0 0 100 200 2", nil, wideAs(kind(api.MinCont))), c(fits, nil, wideAs(kind(api.MaxCont))), c(all, nil, wideAs(kind(api.None))), c(fits, nil, wideAs(kind(api.None)), self(2)), c(all, nil, wideAs(odd)), c(all, nil, wideAs(odd), self(2)),
		// Of a height that is given the ratio tells.
		c("0 0 300 100, 0 0 200 100, 0 0 100 200 2", nil, high(100), ratio(2000, 1000)), c("0 0 300 100, 0 0 200 100, 0 0 100 200 2", nil, high(100), ratio(2000, 1000), self(2)), c("0 0 300 100, 50 0 200 100, 50 0 100 200 2", nil, high(100), ratio(2000, 1000), auto(api.Left, api.Right)), c(fits, nil, high(100), ratio(2000, 0), self(2)), c("0 0 300 113, 0 0 225 113, 0 0 225 100 1", nil, ratio(1990, 1000), self(2)), c("0 0 300 150, 0 0 300 150, 0 0 225 100 1", nil, ratio(2000, 1000)), c("0 0 300 112, 0 0 225 112, 0 0 225 100 1", nil, highAs(half()), ratio(2000, 1000), self(2)),
		// Words likewise: their box is their item's.
		{`a{"ab cd"}`, do(stack()), "0 0 300 100, 0 0 300 100 1"}, {`a{"ab cd"}`, do(stack(items(2))), "0 0 300 100, 75 0 225 100 1"}, {`a{"ab cd"}`, do(stack(wide(150), items(3))), "0 0 150 200, 0 0 150 200 2"}, {`a{"ab cd"}`, do(stack(), at(1, self(3), wide(9))), "0 0 300 100, 0 0 300 100 1"},
		// What holds is by itself as wide as what is around it.
		c("0 0 300 200, 0 0 0 200, 0 0 100 200 2", []edit{items(1)}, inline), c("0 0 300 0, 270 0 30 0, 290 0 100 200 2", []edit{items(2)}, sized, pads(0, 10, 0, 20)),
	})
}

// TestColumnHeights: P24.1: how high an item of a column is at last.
func TestColumnHeights(t *testing.T) {
	none := kind(api.None)
	for _, c := range []struct {
		room, want int
		do         []edit
	}{
		{300, 100, nil}, {300, 40, []edit{high(40)}}, {300, 70, []edit{basis(70)}}, {300, 70, []edit{basis(70), high(40)}}, {300, 30, []edit{basisAs(share(10000)), high(40)}}, {300, 40, []edit{basisAs(none), high(40)}}, {300, 40, []edit{basisAs(kind(api.MaxCont)), high(40)}}, {300, 100, []edit{basisAs(kind(api.MinCont))}}, {300, 100, []edit{basisAs(kind(7))}}, {300, 100, []edit{basis(70), pads(10, 0, 20, 0)}}, {300, 70, []edit{basis(70), pads(10, 0, 20, 0), border}}, {300, 130, []edit{pads(10, 0, 20, 0)}}, {300, 150, []edit{ratio(2000, 1000)}}, {300, 150, []edit{highAs(half())}},
		{300, 120, []edit{minHigh(120)}}, {300, 60, []edit{maxHigh(60)}}, {300, 90, []edit{minHigh(90), maxHigh(60)}}, {300, 80, []edit{basis(70), minHigh(80)}}, {300, 60, []edit{basis(70), maxHigh(60)}}, {300, 150, []edit{minHighAs(half())}},
		// It yields, however much is in it, but not what is around that.
		{50, 50, nil}, {0, 0, nil}, {50, 70, []edit{minHigh(70)}}, {50, 50, []edit{minHighAs(half())}}, {50, 50, []edit{minHighAs(none)}}, {50, 70, []edit{basis(100), pads(30, 0, 40, 0)}}, {50, 70, []edit{high(0), border, pads(30, 0, 40, 0)}}, {50, 100, []edit{shrink(0)}}, {50, 75, []edit{shrink(500)}}, {50, 30, []edit{margins(5, 0, 15, 0)}}, {50, 60, []edit{margins(5, 0, -15, 0)}},
		{300, 300, []edit{grow(1000)}}, {300, 200, []edit{grow(500)}}, {300, 200, []edit{grow(1000), maxHigh(200)}}, {300, 150, []edit{grow(1000), maxHighAs(half())}}, {300, 250, []edit{grow(1000), margins(20, 0, 30, 0)}}, {300, 285, []edit{grow(1000), margin(api.Top, 15), auto(api.Bottom)}},
		// Where nobody knows how high the room is.
		{-1, 100, nil}, {-1, 100, []edit{basisAs(half())}}, {-1, 100, []edit{maxHighAs(half())}}, {-1, 100, []edit{grow(1000)}}, {-1, 70, []edit{basis(70)}}, {-1, 100, []edit{highAs(half())}},
	} {
		heightIn(t, c.room, c.want, c.do...)
	}
}

// TestColumn: P24.1: columns, what is in them, and how high they are.
func TestColumn(t *testing.T) {
	c := func(want string, box []edit, more ...on) laid {
		l := do(stack(box...), at(1, high(40)), at(2, high(60)))
		return laid{`a{b c}`, and(l, more...), want}
	}
	gap := rowGap(fixed(10))
	check(t, []laid{
		c("0 0 300 100, 0 0 300 40, 0 40 300 60", nil), c("0 0 300 110, 0 0 300 40, 0 50 300 60", []edit{gap, colGap(fixed(7))}), c("0 0 300 100, 0 0 300 40, 0 40 300 60", []edit{rowGap(share(10000))}), c("0 0 300 200, 0 0 300 40, 0 60 300 60", []edit{rowGap(share(10000)), high(200)}), c("0 0 300 200, 0 0 300 40, 0 40 300 60", []edit{rowGap(share(10000)), minHigh(200)}),
		// Margins stay apart.
		c("0 0 300 132, 0 5 300 40, 0 61 300 60", nil, at(1, margins(5, 0, 7, 0)), at(2, margins(9, 0, 11, 0))), c("0 0 300 70, 0 -20 300 40, 0 10 300 60", nil, at(1, margins(-20, 0, -10, 0))),
		// Its height is that of all wishes.
		c("0 0 300 130, 0 0 300 70, 0 70 300 60", nil, at(1, basis(70))), c("0 0 300 80, 0 0 300 20, 0 20 300 60", nil, at(1, maxHigh(20))), c("0 0 300 150, 0 0 300 90, 0 90 300 60", nil, at(1, basis(70), minHigh(90))), c("0 0 300 120, 0 20 300 40, 0 60 300 60", []edit{pads(20, 0, 0, 0)}), c("0 0 300 0, 0 -90 300 40, 0 -50 300 60", nil, at(1, margin(api.Top, -90)), at(2, margin(api.Bottom, -50))),
		// They are resolved in the room down, less the gaps.
		c("0 0 300 200, 0 0 300 140, 0 140 300 60", []edit{minHigh(200)}, at(1, grow(1000))), c("0 0 300 60, 0 0 300 24, 0 24 300 36", []edit{maxHigh(60)}), c("0 0 300 60, 0 0 300 20, 0 30 300 30", []edit{maxHigh(60), gap}), c("0 0 300 220, 0 10 300 70, 0 90 300 120", []edit{high(200), pads(10, 0, 10, 0), gap}, at(1, grow(1000)), at(2, grow(2000))),
	})
	way := func(n int, box ...edit) []edit { return append([]edit{high(200), justify(n)}, box...) }
	check(t, []laid{
		// Along it they stand as in a row, ahead of them the top margin.
		c("0 0 300 200, 0 0 300 40, 0 40 300 60", way(0)), c("0 0 300 200, 0 100 300 40, 0 140 300 60", way(1)), c("0 0 300 200, 0 50 300 40, 0 90 300 60", way(2)), c("0 0 300 200, 0 0 300 40, 0 140 300 60", way(3)), c("0 0 300 200, 0 25 300 40, 0 115 300 60", way(4)), c("0 0 300 200, 0 34 300 40, 0 107 300 60", way(5)), c("0 0 300 200, 0 90 300 40, 0 140 300 60", way(1, gap)), c("0 0 300 200, 0 95 300 40, 0 140 300 60", way(1), at(1, margins(-5, 0, 5, 0))),
		c("0 0 300 200, 0 100 300 40, 0 140 300 60", way(0), at(1, auto(api.Top))), c("0 0 300 200, 0 0 300 40, 0 140 300 60", way(1), at(1, auto(api.Bottom))), c("0 0 300 200, 0 50 300 40, 0 140 300 60", way(4), at(1, auto(api.Top, api.Bottom))), c("0 0 300 50, 0 -50 300 40, 0 -10 300 60", []edit{high(50), justify(1)}, at(1, shrink(0)), at(2, shrink(0), auto(api.Top))), c("0 0 300 100, 0 0 300 40, 0 40 300 60", []edit{justify(1)}),
	})
	check(t, []laid{
		// What stands in an item stays as it is, but in a SizeBox, which knows its last height.
		{`a{b{c}}`, do(stack(high(100)), at(1, grow(1000), sized), at(2, highAs(half()))), "0 0 300 100, 0 0 300 100, 0 0 300 50"}, {`a{b{"ab"}}`, do(stack(), at(1, sized)), "0 0 300 0, 0 0 300 0, 0 0 100 100 1"}, {`a{b{c}}`, do(stack(high(100)), at(1, grow(1000))), "0 0 300 100, 0 0 300 100, 0 0 300 0"}, {`a{b{c}}`, do(stack(high(100)), at(1, grow(1000)), at(2, highAs(half()))), "0 0 300 100, 0 0 300 100, 0 0 300 0"}, {`a{b{c}}`, do(stack(high(100)), at(1, basis(10), high(40)), at(2, highAs(half()))), "0 0 300 100, 0 0 300 10, 0 0 300 20"}, {`a{b{c}}`, do(stack(high(100)), at(1, basis(10), high(40), sized), at(2, highAs(half()))), "0 0 300 100, 0 0 300 10, 0 0 300 5"}, {`a{b{"ab"}}`, do(stack(), at(1, inline)), "0 0 300 100, 0 0 300 100, 0 0 100 100 1"},
		{`a{"ab cd"}`, do(stack(high(50))), "0 0 300 50, 0 0 300 50 1"}, {`a{"ab cd"}`, do(stack(high(500))), "0 0 300 500, 0 0 300 100 1"},
		// An item is apart.
		{`a{b{c}}`, do(stack(), at(2, high(10), margins(20, 0, 30, 0))), "0 0 300 60, 0 0 300 60, 0 20 300 10"},
		// Its Wrap breaks nothing.
		{`a{b c}`, do(stack(high(50), wrap(1)), at(1, high(40)), at(2, high(60))), "0 0 300 50, 0 0 300 20, 0 20 300 30"},
	})
}
