package lay_test

import (
	"testing"

	"wainscot/api"
	"wainscot/axis"
	"wainscot/lay"
)

// kids are the edits of a flex box with kids that have nothing in them, 50 wide and 40 high.
func kids(n int, box ...edit) []on {
	l := do(at(0, append([]edit{flex, wide(300)}, box...)...))
	for i := range n {
		l = append(l, at(i+1, wide(50), high(40)))
	}
	return l
}

// and are edits of some nodes, and some more.
func and(l []on, more ...on) []on {
	return append(l, more...)
}

// widthIn fails if the first kid of a row is not as wide as asked for.
func widthIn(t *testing.T, text string, room, want int, do ...edit) {
	t.Helper()
	l := page(t, text)
	boxes := lay.Lay(l, styles(len(l), at(0, flex, wide(room)), at(1, do...)), api.View{W: 1000, H: 500})
	if boxes[1].W != want {
		t.Errorf("%s in %d: %d, not %d", text, room, boxes[1].W, want)
	}
}

// TestItems: P24.1: a flex box's items are its kids, by Order.
func TestItems(t *testing.T) {
	check(t, []laid{
		{`a{b c}`, do(at(0, flex, wide(300)), at(1, wide(100), high(40)), at(2, wide(50))), "0 0 300 40, 0 0 100 40, 100 0 50 40"},
		{`a{b c}`, and(kids(2), at(1, order(1))), "0 0 300 40, 50 0 50 40, 0 0 50 40"},
		{`a{b c d e}`, do(at(0, flex, wide(300)), at(1, wide(10), order(1)), at(2, wide(20)), at(3, wide(30), order(1)), at(4, wide(40))), "0 0 300 0, 60 0 10 0, 0 0 20 0, 70 0 30 0, 20 0 40 0"},
		{`a{b c d}`, and(kids(3), at(1, order(highest)), at(3, order(lowest))), "0 0 300 40, 100 0 50 40, 50 0 50 40, 0 0 50 40"},
		{`a{b c}`, and(kids(2, dir(axis.Column)), at(1, order(1))), "0 0 300 80, 0 40 50 40, 0 0 50 40"},
		// Words have the Order 0, whatever stands at their place in the styles.
		{`a{b "ab" c}`, do(at(0, flex, wide(300)), at(1, order(1), wide(10)), at(2, order(-9)), at(3, order(-1), wide(20))), "0 0 300 100, 120 0 10 100, 20 0 100 100 1, 0 0 20 100"},
		// Who is not in the flow is none.
		{`a{b "" c "  " d}`, and(kids(3, colGap(fixed(10))), at(3, hidden), at(5, wide(50))), "0 0 300 40, 0 0 50 40, -, -, -, 60 0 50 40"},
		{`a`, do(at(0, flex)), "0 0 1000 0"}, {`a`, do(at(0, flex, wrap(1), high(7))), "0 0 1000 7"}, {`a`, do(at(0, flex, dir(axis.Column), rowGap(fixed(9)))), "0 0 1000 0"},
	})
}

// TestBegins: P24.1: with what an item of a row begins.
func TestBegins(t *testing.T) {
	const words = `a{b{"abcd ab"}}` // by itself it is from 200 to 325 wide
	none, odd := kind(api.None), kind(7)
	for _, c := range []struct {
		want int
		do   []edit
	}{
		{325, nil}, {150, []edit{wide(150)}}, {70, []edit{wide(150), basis(70), minWide(0)}}, {150, []edit{wide(150), basisAs(none)}}, {325, []edit{wideAs(none)}}, {325, []edit{wideAs(none), basisAs(none)}},
		{325, []edit{wide(150), basisAs(kind(api.MaxCont))}}, {200, []edit{wide(250), basisAs(kind(api.MinCont))}}, {325, []edit{wide(150), basisAs(kind(api.FitCont))}}, {100, []edit{basisAs(share(10000)), minWide(0)}}, {500, []edit{wideAs(half())}}, {200, []edit{wideAs(kind(api.MinCont))}},
		// A size that is none says nothing, and W is not asked then.
		{325, []edit{wide(250), basisAs(odd)}}, {325, []edit{wideAs(odd)}},
		// What is around.
		{180, []edit{wide(150), pads(0, 10, 0, 20)}}, {150, []edit{wide(150), pads(0, 10, 0, 20), border}}, {400, []edit{basis(370), pads(0, 10, 0, 20)}}, {355, []edit{pads(0, 10, 0, 20)}},
	} {
		widthIn(t, words, 1000, c.want, c.do...)
	}
	turned := []edit{high(100), ratio(2000, 1000)}
	for _, c := range []struct {
		want int
		do   []edit
	}{
		{200, nil}, {30, []edit{wide(30)}}, {70, []edit{basis(70)}}, {150, []edit{maxWide(150)}}, {250, []edit{minWide(250)}}, {230, []edit{pads(7, 10, 9, 20)}}, {0, []edit{highAs(half())}}, {0, []edit{highAs(api.Size{})}}, {0, []edit{ratio(2000, 0)}}, {200, []edit{basisAs(odd), wide(30)}}, {200, []edit{wideAs(odd)}}, {400, []edit{minHigh(200)}}, {0, []edit{basisAs(kind(api.MaxCont))}},
	} {
		widthIn(t, `a{b}`, 1000, c.want, append(turned, c.do...)...)
	}
	// It begins with what MaxW, MinW does not let it be: by that it yields.
	check(t, []laid{
		{`a{b c}`, do(at(0, flex, wide(200)), at(1, append(turned, maxWide(150))...), at(2, wide(100))), "0 0 200 100, 0 0 133 100, 133 0 67 100"},
		{`a{b c}`, do(at(0, flex, wide(200)), at(1, basis(200), maxWide(150)), at(2, wide(100))), "0 0 200 0, 0 0 133 0, 133 0 67 0"},
		{`a{"abcd ab" b}`, do(at(0, flex, wide(400)), at(2, grow(1000))), "0 0 400 100, 0 0 325 100 1, 325 0 75 100"},
	})
}

// TestLeast: P24.1: the least and the most width of an item of a row, and by what it yields.
func TestLeast(t *testing.T) {
	const words = `a{b{"abcd ab"}}`
	none, odd := kind(api.None), kind(7)
	for _, c := range []struct {
		room, want int
		do         []edit
	}{
		{250, 250, nil}, {100, 200, nil}, {100, 100, []edit{minWide(0)}}, {100, 120, []edit{minWide(120)}}, {100, 200, []edit{minWideAs(kind(api.MinCont))}}, {100, 325, []edit{minWideAs(kind(api.MaxCont))}}, {100, 200, []edit{minWideAs(kind(api.FitCont))}}, {100, 100, []edit{minWideAs(half())}}, {100, 200, []edit{minWideAs(none)}}, {100, 200, []edit{minWideAs(odd)}},
		// What its content needs counts no more than W, nor than MaxW; what MinW says does.
		{100, 150, []edit{wide(150)}}, {100, 150, []edit{wide(150), basis(400)}}, {100, 180, []edit{basis(400), maxWide(180)}}, {100, 190, []edit{basis(400), maxWide(180), minWide(190)}}, {100, 190, []edit{basis(400), wide(180), minWide(190)}}, {100, 170, []edit{basis(400), wide(170), maxWide(180)}}, {100, 170, []edit{basis(400), wide(180), maxWide(170)}}, {100, 200, []edit{basis(400), wideAs(kind(api.MaxCont))}}, {100, 100, []edit{basis(400), wideAs(share(20000))}}, {100, 200, []edit{basis(400), wideAs(share(250000))}},
		// What is around it counts always.
		{10, 50, []edit{minWide(0), pads(0, 20, 0, 30)}}, {10, 50, []edit{wide(0), border, pads(0, 20, 0, 30)}}, {10, 50, []edit{maxWide(0), border, basis(400), edge(api.Left, 50)}}, {100, 250, []edit{pads(0, 20, 0, 30)}}, {10, 50, []edit{inline, pads(0, 20, 0, 30)}},
		// Its margins take of the room.
		{300, 250, []edit{basis(400), minWide(0), margins(0, 20, 0, 30)}}, {300, 310, []edit{basis(400), minWide(0), margins(0, 20, 0, -30)}}, {300, 270, []edit{basis(400), minWide(0), margin(api.Left, 30), auto(api.Right)}},
		// Grow, Shrink, the most.
		{100, 400, []edit{basis(400), shrink(0)}}, {300, 300, []edit{minWide(0), basis(400), shrink(2000)}}, {300, 350, []edit{minWide(0), basis(400), shrink(500)}}, {1000, 325, nil}, {1000, 1000, []edit{grow(1000)}}, {1000, 662, []edit{grow(500)}}, {1000, 600, []edit{grow(1000), maxWide(600)}}, {1000, 500, []edit{grow(1000), maxWideAs(half())}}, {1000, 200, []edit{grow(1000), maxWideAs(kind(api.MinCont))}}, {1000, 1000, []edit{grow(1000), maxWideAs(odd)}}, {1000, 630, []edit{grow(1000), maxWide(600), pads(0, 10, 0, 20)}}, {1000, 325, []edit{grow(-1000)}},
	} {
		widthIn(t, words, c.room, c.want, c.do...)
	}
	check(t, []laid{
		// What is around an item does not yield.
		{`a{b c}`, do(at(0, flex, wide(200)), at(1, basis(100), pad(api.Left, 100)), at(2, basis(200))), "0 0 200 0, 0 0 133 0, 133 0 67 0"},
		// Words yield as what nothing is told of: down to the widest one.
		{`a{"abcd ab"}`, do(at(0, flex, wide(250)), at(1, shrink(0))), "0 0 250 200, 0 0 250 200 2"}, {`a{"abcd ab"}`, do(at(0, flex, wide(100)), at(1, shrink(0))), "0 0 100 200, 0 0 200 200 2"}, {`a{"abcd ab"}`, do(at(0, flex, wide(1000)), at(1, grow(1000))), "0 0 1000 100, 0 0 325 100 1"},
	})
}

// TestLines: P24.1: items are taken into lines one by one.
func TestLines(t *testing.T) {
	thirds := func(box ...edit) []on {
		l := kids(3, append(box, wrap(1))...)
		return and(l, at(1, wide(100)), at(2, wide(100)), at(3, wide(100)))
	}
	const one, two = "0 0 300 40, 0 0 100 40, 100 0 100 40, 200 0 100 40", "0 0 300 80, 0 0 100 40, 100 0 100 40, 0 40 100 40"
	check(t, []laid{
		{`a{b c d}`, thirds(), one}, {`a{b c d}`, and(thirds(), at(2, wide(101))), "0 0 300 80, 0 0 100 40, 100 0 101 40, 0 40 100 40"}, {`a{b c d}`, thirds(colGap(fixed(1))), "0 0 300 80, 0 0 100 40, 101 0 100 40, 0 40 100 40"}, {`a{b c d}`, thirds(colGap(fixed(101))), "0 0 300 120, 0 0 100 40, 0 40 100 40, 0 80 100 40"}, {`a{b c d}`, thirds(rowGap(fixed(100))), one},
		// Of wishes, with their margins.
		{`a{b c d}`, and(thirds(), at(1, basis(500), maxWide(100))), one}, {`a{b c d}`, and(thirds(), at(3, minWide(101))), "0 0 300 80, 0 0 100 40, 100 0 100 40, 0 40 101 40"}, {`a{b c d}`, and(thirds(), at(3, margin(api.Right, 1))), two}, {`a{b c d}`, and(thirds(), at(3, margin(api.Left, 1))), "0 0 300 80, 0 0 100 40, 100 0 100 40, 1 40 100 40"}, {`a{b c d}`, and(thirds(colGap(fixed(5))), at(2, margin(api.Right, -10))), "0 0 300 40, 0 0 100 40, 105 0 100 40, 200 0 100 40"},
		// The first one stands in its line, however wide.
		{`a{b c d}`, and(thirds(), at(1, wide(400), shrink(0))), "0 0 300 80, 0 0 400 40, 0 40 100 40, 100 40 100 40"}, {`a{b c d}`, and(thirds(), at(1, wide(400))), "0 0 300 80, 0 0 300 40, 0 40 100 40, 100 40 100 40"}, {`a{b c d}`, and(thirds(), at(2, wide(400))), "0 0 300 120, 0 0 100 40, 0 40 300 40, 0 80 100 40"},
		// Each line is resolved by itself, in the room less its own gaps.
		{`a{b c d}`, and(thirds(colGap(fixed(20))), at(1, grow(1000)), at(3, grow(1000))), "0 0 300 80, 0 0 180 40, 200 0 100 40, 0 40 300 40"},
		// Without lines to break into they yield.
		{`a{b c d}`, and(thirds(wide(150)), at(0, wrap(0))), "0 0 150 40, 0 0 50 40, 50 0 50 40, 100 0 50 40"}, {`a{b c d}`, and(thirds(colGap(fixed(30))), at(0, wrap(0))), "0 0 300 40, 0 0 80 40, 110 0 80 40, 220 0 80 40"},
		// Any number but 0 breaks.
		{`a{b c d}`, and(thirds(colGap(fixed(1))), at(0, wrap(-1))), "0 0 300 80, 0 0 100 40, 101 0 100 40, 0 40 100 40"}, {`a{b c d}`, and(thirds(colGap(fixed(1))), at(0, wrap(3))), "0 0 300 80, 0 0 100 40, 101 0 100 40, 0 40 100 40"},
	})
}

// TestGaps: P24.1: the gaps between items, and between lines.
func TestGaps(t *testing.T) {
	c := func(want string, box ...edit) laid {
		return laid{`a{b c d}`, and(kids(3, append(box, wrap(1), content(1))...), at(1, wide(200)), at(2, wide(50)), at(3, wide(200))), want}
	}
	odd := api.Size{Kind: 7, N: 10}
	const none = "0 0 300 80, 0 0 200 40, 200 0 50 40, 0 40 200 40"
	check(t, []laid{
		c(none), c("0 0 300 80, 0 0 200 40, 210 0 50 40, 0 40 200 40", colGap(fixed(10))), c("0 0 300 90, 0 0 200 40, 200 0 50 40, 0 50 200 40", rowGap(fixed(10))),
		// Of the room, whatever is around it; of what percentages are of, if anybody knows.
		c("0 0 300 80, 0 0 200 40, 215 0 50 40, 0 40 200 40", colGap(share(5000))), c("0 0 320 80, 10 0 200 40, 225 0 50 40, 10 40 200 40", colGap(share(5000)), pads(0, 10, 0, 10)), c(none, rowGap(share(5000))), c("0 0 300 200, 0 0 200 40, 200 0 50 40, 0 50 200 40", rowGap(share(5000)), high(200)), c("0 0 300 220, 0 10 200 40, 200 10 50 40, 0 60 200 40", rowGap(share(5000)), high(200), pads(10, 0, 10, 0)),
		// At least 0; of other kinds none.
		c(none, colGap(fixed(-10)), rowGap(fixed(-10))), c(none, colGap(share(-5000)), rowGap(share(-5000))), c(none, colGap(odd), rowGap(odd)), c(none, colGap(api.Size{N: 10}), rowGap(api.Size{N: 10})),
	})
}

// TestLineSizes: P24.1: how much lines take across, and what the content's height is.
func TestLineSizes(t *testing.T) {
	check(t, []laid{
		{`a{b c}`, and(kids(2), at(2, high(60))), "0 0 300 60, 0 0 50 40, 50 0 50 60"}, {`a{b c}`, and(kids(2), at(1, margins(5, 0, 7, 0)), at(2, high(50))), "0 0 300 52, 0 5 50 40, 50 0 50 50"}, {`a{b}`, and(kids(1), at(1, margins(-30, 0, 0, 0))), "0 0 300 10, 0 -30 50 40"}, {`a{b}`, and(kids(1), at(1, margins(-30, 0, -20, 0))), "0 0 300 0, 0 -30 50 40"},
		{`a{b c}`, and(kids(2, wrap(1), rowGap(fixed(5))), at(1, wide(200), margins(-30, 0, -20, 0)), at(2, wide(200))), "0 0 300 45, 0 -30 200 40, 0 5 200 40"},
		// Own heights: of the width that an item has at last.
		{`a{"ab cd" b{"ab cd"}}`, do(at(0, flex, wide(300))), "0 0 300 200, 0 0 150 200 2, 150 0 150 200, 150 0 100 200 2"}, {`a{b{"ab cd"}}`, do(at(0, flex, wide(300)), at(1, basis(100), grow(1000))), "0 0 300 100, 0 0 300 100, 0 0 225 100 1"}, {`a{b}`, do(at(0, flex, wide(300)), at(1, ratio(1000, 1000), grow(1000))), "0 0 300 300, 0 0 300 300"},
		// An item is apart: margins stay in it. A SizeBox's is that of no content.
		{`a{b{c}}`, do(at(0, flex, wide(300)), at(2, high(10), margins(20, 0, 30, 0))), "0 0 300 60, 0 0 0 60, 0 20 0 10"}, {`a{b{"ab"} c}`, do(at(0, flex, wide(300)), at(1, sized, minHigh(20)), at(3, wide(1), high(10))), "0 0 300 20, 0 0 0 20, 0 0 100 100 1, 0 0 1 10"}, {`a{b{"ab"}}`, do(at(0, flex, wide(300)), at(1, inline)), "0 0 300 100, 0 0 0 100, 0 0 100 100 1"},
	})
}

// TestSpread: P24.1: what lines leave of the room across is given out; a single line has it all.
func TestSpread(t *testing.T) {
	c := func(want string, box ...edit) laid {
		return laid{`a{b c}`, and(kids(2, append(box, wrap(1))...), at(1, wide(200)), at(2, wide(200), high(60))), want}
	}
	tall := high(200)
	check(t, []laid{
		c("0 0 300 200, 0 0 200 40, 0 90 200 60", tall), c("0 0 300 200, 0 0 200 40, 0 40 200 60", tall, content(1)), c("0 0 300 200, 0 100 200 40, 0 140 200 60", tall, content(2)), c("0 0 300 200, 0 50 200 40, 0 90 200 60", tall, content(3)), c("0 0 300 200, 0 0 200 40, 0 140 200 60", tall, content(4)), c("0 0 300 200, 0 25 200 40, 0 115 200 60", tall, content(5)), c("0 0 300 200, 0 34 200 40, 0 107 200 60", tall, content(6)), c("0 0 300 200, 0 0 200 40, 0 40 200 60", tall, content(7)),
		c("0 0 300 200, 0 0 200 40, 0 95 200 60", tall, rowGap(fixed(10))), c("0 0 300 200, 0 45 200 40, 0 95 200 60", tall, rowGap(fixed(10)), content(3)), c("0 0 300 200, 0 23 200 40, 0 118 200 60", tall, rowGap(fixed(10)), content(5)),
		c("0 0 300 220, 0 10 200 40, 0 100 200 60", minHigh(200), pads(10, 0, 10, 0)), c("0 0 300 200, 0 100 200 40, 0 140 200 60", ratio(300, 200), content(2)), c("0 0 300 200, 0 100 200 40, 0 140 200 60", sized, tall, content(2)),
		// Where too little is left.
		c("0 0 300 50, 0 0 200 40, 0 40 200 60", high(50)), c("0 0 300 50, 0 -50 200 40, 0 -10 200 60", high(50), content(2)), c("0 0 300 50, 0 -25 200 40, 0 15 200 60", high(50), content(3)), c("0 0 300 50, 0 0 200 40, 0 40 200 60", high(50), content(4)), c("0 0 300 0, 0 0 200 40, 0 40 200 60", sized),
		// One line that might have broken, and one that might not.
		{`a{b c}`, and(kids(2, wrap(1), high(100)), at(2, highAs(api.Size{}))), "0 0 300 100, 0 0 50 40, 50 0 50 100"}, {`a{b c}`, and(kids(2, wrap(1), high(100), content(1)), at(2, highAs(api.Size{}))), "0 0 300 100, 0 0 50 40, 50 0 50 40"}, {`a{b c}`, and(kids(2, high(100), content(2)), at(2, highAs(api.Size{}))), "0 0 300 100, 0 0 50 40, 50 0 50 100"}, {`a{b c}`, and(kids(2, high(10)), at(2, highAs(api.Size{}))), "0 0 300 10, 0 0 50 40, 50 0 50 10"},
	})
}

// TestStretch: P24.1: which items of a row are as high as their line.
func TestStretch(t *testing.T) {
	c := func(want string, item ...edit) laid {
		return laid{`a{b}`, do(at(0, flex, wide(300), high(100)), at(1, append([]edit{wide(50)}, item...)...)), "0 0 300 100, " + want}
	}
	check(t, []laid{
		c("0 0 50 100"), c("0 5 50 88", margins(5, 0, 7, 0)), c("0 -5 50 112", margins(-5, 0, -7, 0)), c("0 0 50 60", maxHigh(60)), c("0 0 50 120", minHigh(120)), c("0 0 50 100", pads(30, 0, 40, 0)), c("0 0 50 130", pads(60, 0, 70, 0)), c("0 80 50 0", margins(80, 0, 90, 0)), c("0 0 50 100", highAs(kind(api.None))), c("0 0 50 50", maxHighAs(half())),
		// Not who has a height, a ratio, a margin that takes what is free, or another way.
		c("0 0 50 40", high(40)), c("0 0 50 50", highAs(half())), c("0 0 50 25", ratio(2000, 1000)), c("0 100 50 0", auto(api.Top)), c("0 0 50 0", auto(api.Bottom)), c("0 50 50 0", auto(api.Top, api.Bottom)), c("0 0 50 0", self(2)), c("0 100 50 0", self(3)), c("0 50 50 0", self(4)), c("0 0 50 0", self(5)), c("0 0 50 100", self(1)), c("0 0 50 100", self(-1)), c("0 0 50 0", self(highest)), c("250 0 50 100", auto(api.Left)), c("0 0 50 100", ratio(2000, 0)),
		// The box's Items tell, where Self does not.
		{`a{b c}`, and(kids(2, high(100), items(2)), at(2, self(1), highAs(api.Size{}))), "0 0 300 100, 0 60 50 40, 50 0 50 100"}, {`a{b}`, do(at(0, flex, high(100), items(1)), at(1, wide(50))), "0 0 1000 100, 0 0 50 0"}, {`a{b}`, do(at(0, flex, high(100), items(-1)), at(1, wide(50))), "0 0 1000 100, 0 0 50 0"}, {`a{"ab"}`, do(at(0, flex, high(250))), "0 0 1000 250, 0 0 100 250 1"}, {`a{"ab"}`, do(at(0, flex, high(250), items(3)), at(1, self(2))), "0 0 1000 250, 0 75 100 100 1"},
		// Of a height that its room does not give: with nobody's a percentage is none.
		{`a{b c}`, do(at(0, flex), at(1, wide(50), highAs(half())), at(2, wide(50), high(30))), "0 0 1000 30, 0 0 50 30, 50 0 50 30"},
		// What stands in a SizeBox knows the last height, what stands in others stays as it is.
		{`a{b{c}}`, do(at(0, flex, high(100)), at(1, wide(50), sized), at(2, highAs(half()))), "0 0 1000 100, 0 0 50 100, 0 0 50 50"}, {`a{b{c}}`, do(at(0, flex, high(100)), at(1, wide(50), sized, pads(10, 0, 30, 0)), at(2, highAs(half()))), "0 0 1000 100, 0 0 50 100, 0 10 50 30"}, {`a{b{c}}`, do(at(0, flex, high(100), items(2)), at(1, wide(50), sized, minHigh(20)), at(2, highAs(half()))), "0 0 1000 100, 0 80 50 20, 0 80 50 10"}, {`a{b{c}}`, do(at(0, flex, high(100)), at(1, wide(50)), at(2, highAs(half()))), "0 0 1000 100, 0 0 50 100, 0 0 50 0"}, {`a{b{c}}`, do(at(0, flex, high(100)), at(1, wide(50), flex), at(2, wide(9))), "0 0 1000 100, 0 0 50 100, 0 0 9 0"}, {`a{b{c}}`, do(at(0, flex, high(100)), at(1, wide(50), inline), at(2, highAs(half()))), "0 0 1000 100, 0 0 50 100, 0 0 50 0"},
	})
}

// TestPlaces: P24.1: an item's place across, in its line.
func TestPlaces(t *testing.T) {
	second := func(want string, item ...edit) laid {
		return laid{`a{b c}`, and(kids(2, wrap(1), rowGap(fixed(5)), high(205)), at(1, wide(300)), at(2, append([]edit{wide(300)}, item...)...)), "0 0 300 205, 0 0 300 40, " + want}
	}
	c := func(want string, item ...edit) laid {
		return laid{`a{b}`, and(kids(1, high(100)), at(1, item...)), "0 0 300 100, " + want}
	}
	m := margins(10, 0, 20, 0)
	check(t, []laid{
		// The second line begins at 105, and takes 100; with the margins it begins at 90, and takes 115.
		second("0 105 300 40"), second("0 105 300 40", self(2)), second("0 165 300 40", self(3)), second("0 135 300 40", self(4)), second("0 105 300 40", self(9)), second("0 100 300 40", m), second("0 145 300 40", m, self(3)), second("0 145 300 40", m, auto(api.Top)),
		c("0 10 50 40", m), c("0 10 50 40", m, self(2)), c("0 40 50 40", m, self(3)), c("0 25 50 40", m, self(4)), c("0 24 50 41", m, self(4), high(41)), c("0 60 50 40", self(3)),
		// Margins that take what is free, if anything is.
		c("0 40 50 40", m, auto(api.Top)), c("0 10 50 40", m, auto(api.Bottom), self(3)), c("0 30 50 40", auto(api.Top, api.Bottom), self(3)), c("0 30 50 41", auto(api.Top, api.Bottom), high(41)), c("0 0 50 140", auto(api.Top, api.Bottom), high(140)), c("0 0 50 140", auto(api.Top), high(140), self(4)), c("0 10 50 140", m, auto(api.Bottom), high(140), self(4)),
		// Where it is too high.
		c("0 0 50 140", high(140)), c("0 -40 50 140", high(140), self(3)), c("0 -20 50 140", high(140), self(4)), c("0 -21 50 141", high(141), self(4)), c("0 -20 50 100", m, high(100), self(3)), c("0 -5 50 100", m, high(100), self(4)), c("0 -10 50 120", high(120), margins(-10, 0, -10, 0), self(3)),
	})
}

// TestAlong: P24.1: where items begin along their line.
func TestAlong(t *testing.T) {
	c := func(want string, box []edit, more ...on) laid {
		return laid{`a{b c}`, and(kids(2, box...), more...), "0 0 300 40, " + want}
	}
	way := func(n int) []edit { return []edit{justify(n)} }
	gap := func(n int) []edit { return []edit{justify(n), colGap(fixed(10))} }
	m := at(1, margins(0, 20, 0, 10))
	check(t, []laid{
		c("0 0 50 40, 50 0 50 40", way(0)), c("200 0 50 40, 250 0 50 40", way(1)), c("100 0 50 40, 150 0 50 40", way(2)), c("0 0 50 40, 250 0 50 40", way(3)), c("50 0 50 40, 200 0 50 40", way(4)), c("67 0 50 40, 184 0 50 40", way(5)), c("0 0 50 40, 50 0 50 40", way(6)), c("0 0 50 40, 50 0 50 40", way(-1)),
		c("0 0 50 40, 60 0 50 40", gap(0)), c("190 0 50 40, 250 0 50 40", gap(1)), c("95 0 50 40, 155 0 50 40", gap(2)), c("0 0 50 40, 250 0 50 40", gap(3)), c("48 0 50 40, 203 0 50 40", gap(4)), c("64 0 50 40, 187 0 50 40", gap(5)),
		// Margins stand ahead of them and behind.
		c("10 0 50 40, 80 0 50 40", way(0), m), c("180 0 50 40, 250 0 50 40", way(1), m), c("95 0 50 40, 165 0 50 40", way(2), m), c("10 0 50 40, 250 0 50 40", way(3), m), c("-10 0 50 40, 35 0 50 40", way(0), at(1, margins(0, -5, 0, -10))),
		// What is free is first given to margins that take it.
		c("200 0 50 40, 250 0 50 40", way(0), at(1, auto(api.Left))), c("0 0 50 40, 250 0 50 40", way(1), at(1, auto(api.Right))), c("100 0 50 40, 250 0 50 40", way(2), at(1, auto(api.Left, api.Right))), c("0 0 50 40, 250 0 50 40", way(5), at(2, auto(api.Left))), c("0 0 50 40, 50 0 50 40", way(1), at(2, auto(api.Right))), c("67 0 50 40, 250 0 51 40", way(1), at(1, auto(api.Left, api.Right)), at(2, auto(api.Left), margin(api.Right, -1), wide(51))), c("180 0 50 40, 250 0 50 40", gap(3), at(1, auto(api.Left), margin(api.Right, 10))), c("0 0 150 40, 150 0 150 40", way(1), at(1, grow(1000), auto(api.Left)), at(2, grow(1000))),
	})
	tight := func(want string, way int, more ...on) laid {
		return laid{`a{b c}`, and(kids(2, wide(60), justify(way)), append([]on{at(1, shrink(0)), at(2, shrink(0))}, more...)...), "0 0 60 40, " + want}
	}
	check(t, []laid{
		// Where too little is free, who takes it gets none.
		tight("0 0 50 40, 50 0 50 40", 0), tight("-40 0 50 40, 10 0 50 40", 1), tight("-20 0 50 40, 30 0 50 40", 2), tight("0 0 50 40, 50 0 50 40", 3), tight("0 0 50 40, 50 0 50 40", 4), tight("0 0 50 40, 50 0 50 40", 5), tight("0 0 50 40, 50 0 50 40", 0, at(1, auto(api.Left))), tight("-40 0 50 40, 10 0 50 40", 1, at(1, auto(api.Left))),
		// Each line by itself.
		{`a{b c d}`, and(kids(3, wrap(1), justify(1)), at(2, wide(250)), at(3, margin(api.Right, 5))), "0 0 300 80, 0 0 50 40, 50 0 250 40, 245 40 50 40"},
		{`a{b c d}`, and(kids(3, wrap(1), justify(3), colGap(fixed(10))), at(2, wide(250)), at(3, wide(100))), "0 0 300 120, 0 0 50 40, 0 40 250 40, 0 80 100 40"},
	})
}
