package lay_test

import (
	"strings"
	"testing"

	"wainscot/api"
	"wainscot/axis"
	"wainscot/lay"
)

// TestEnds: P24.1: all sums stop at an end, one behind the other, in the order in which they are told.
func TestEnds(t *testing.T) {
	list := func(boxes ...string) string { return strings.Join(boxes, ", ") }
	great := fixed(end)
	check(t, []laid{
		// Where a box begins: how far from its parent's is summed up first.
		{`a{b}`, do(at(0, margin(api.Left, end), pad(api.Left, 10)), at(1, margin(api.Left, -30))), list(text(end, 0, 10, 0), text(end-20, 0, 30, 0))},
		{`a{b{c}}`, do(at(0, margin(api.Left, end)), at(1, margin(api.Left, 10)), at(2, margin(api.Left, -5))), list(text(end, 0, 0, 0), text(end, 0, 0, 0), text(end-5, 0, 5, 0))},
		{`a{b c}`, do(at(1, high(end)), at(2, high(end), margin(api.Top, -5))), list(text(0, 0, 1000, end), text(0, 0, 1000, end), text(0, end-5, 1000, end))},
		// What a line takes: the gap, then the wish and its margins together.
		{`a{b c}`, and(kids(2, wide(end-15), wrap(1), colGap(fixed(10))), at(1, wide(end), shrink(0)), at(2, wide(0), margin(api.Left, -20))), list(text(0, 0, end-15, 40), text(0, 0, end, 40), text(end-20, 0, 0, 40))},
		{`a{b c}`, and(kids(2, wide(end-15), wrap(1)), at(1, wide(end), shrink(0)), at(2, wide(30), margin(api.Left, -20))), list(text(0, 0, end-15, 80), text(0, 0, end, 40), "-20 40 30 40")},
		// Along a line: all gaps together; the space ahead of the margin.
		{`a{b c d}`, and(kids(3, wide(100), colGap(great), justify(1)), at(1, wide(20), shrink(0)), at(2, wide(20), shrink(0)), at(3, wide(20), shrink(0))), list(text(0, 0, 100, 40), text(40-end, 0, 20, 40), text(60, 0, 20, 40), text(end, 0, 20, 40))},
		{`a{b c}`, and(kids(2, wide(end), justify(3)), at(1, wide(end), shrink(0)), at(2, wide(0), margin(api.Left, -100))), list(text(0, 0, end, 40), text(0, 0, end, 40), text(end-100, 0, 0, 40))},
		// What lines leave: one behind the other.
		{`a{b c}`, and(kids(2, wrap(1), high(100), content(2)), at(1, wide(300), high(end)), at(2, wide(300), high(end))), list("0 0 300 100", text(0, -end, 300, end), text(0, 0, 300, end))},
		{`a{b c d}`, and(kids(3, wrap(1), high(200), content(2), rowGap(great)), at(1, wide(300)), at(2, wide(300)), at(3, wide(300))), list("0 0 300 200", text(0, -end, 300, 40), "0 40 300 40", text(0, end, 300, 40))},
		// Both margins together: of what a line takes, and of what it leaves to an item; else one behind the other.
		{`a{b}`, and(kids(1), at(1, margins(end, 0, -end, 0))), list("0 0 300 40", text(0, end, 50, 40))},
		{`a{b}`, and(kids(1, high(100)), at(1, highAs(api.Size{}), margins(-end, 0, end, 0))), list("0 0 300 100", text(0, -end, 50, 100))},
		{`a{b}`, and(kids(1, high(100)), at(1, margins(-end, 0, end, 0), self(3))), list("0 0 300 100", text(0, -end, 50, 40))},
		// What is in a column: the gaps first, then each wish and its margins.
		{`a{b c}`, and(kids(2, dir(axis.Column), rowGap(great)), at(1, margin(api.Bottom, -100)), at(2, high(60))), list(text(0, 0, 300, end-40), "0 0 50 24", text(0, end-76, 50, 36))},
	})
}

// TestMany: P24.1: of many items of one Order the first one stands first.
func TestMany(t *testing.T) {
	const many = 40
	l := page(t, `a{`+strings.Repeat(`b `, many)+`}`)
	s := styles(many+1, at(0, flex))
	even := 0
	for i := 1; i <= many; i++ {
		s[i].W, s[i].Order = fixed(i), i%2
		even += i * (1 - i%2)
	}
	x := [2]int{0, even}
	for i, b := range lay.Lay(l, s, api.View{W: 1000, H: 500}) {
		if i == 0 {
			continue
		}
		if b.X != x[i%2] || b.W != i {
			t.Errorf("%d: %+v, not at %d", i, b, x[i%2])
		}
		x[i%2] += i
	}
	if x[0] != even {
		t.Errorf("%v", x)
	}
}

// TestPadded: P24.1: what is around the content of a box is no part of its items' room.
func TestPadded(t *testing.T) {
	check(t, []laid{
		{`a{"ab cd"}`, do(at(0, wide(224), pad(api.Right, 20))), "0 0 244 200, 0 0 100 200 2"},
		{`a{b c}`, and(kids(2, pads(1, 20, 3, 10), justify(1)), at(1, wideAs(half()))), "0 0 330 44, 110 1 150 40, 260 1 50 40"},
		{`a{"ab cd"}`, do(at(0, flex, wide(224), pad(api.Right, 20))), "0 0 244 200, 0 0 224 200 2"},
		{`a{b c}`, do(stack(high(200), pads(5, 10, 5, 10), justify(1), items(2)), at(1, wide(50), high(40)), at(2, wideAs(half()), high(60))), "0 0 320 210, 260 105 50 40, 160 145 150 60"},
		{`a{"ab cd"}`, do(stack(wide(224), pad(api.Right, 20))), "0 0 244 200, 0 0 224 200 2"},
	})
}
