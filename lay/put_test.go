package lay_test

import (
	"testing"

	"wainscot/api"
	"wainscot/axis"
)

// TestPutRow: P24.1: items of a row stand where its way says.
func TestPutRow(t *testing.T) {
	c := func(want string, way int, box ...edit) laid {
		return laid{`a{b c}`, and(kids(2, append(box, dir(way))...), at(1, wide(100))), "0 0 300 40, " + want}
	}
	const forth, back = "0 0 100 40, 100 0 50 40", "200 0 100 40, 150 0 50 40"
	check(t, []laid{
		c(forth, axis.Row), c(back, axis.RowBack), c(forth, 4), c(forth, -1), c(forth, lowest), c(forth, axis.Row, wrap(2)), c(back, axis.RowBack, wrap(2)), c("50 0 100 40, 0 0 50 40", axis.RowBack, justify(1)), c("200 0 100 40, 0 0 50 40", axis.RowBack, justify(3)), c("200 0 100 40, 140 0 50 40", axis.RowBack, colGap(fixed(10))),
		// What is around the content is where it is, whichever way.
		{`a{b}`, and(kids(1, dir(axis.RowBack), pads(1, 20, 3, 10))), "0 0 330 44, 260 1 50 40"},
		// What is ahead of an item is, in its line, its left margin; the way turns the whole line.
		{`a{b c}`, and(kids(2, dir(axis.RowBack)), at(1, wide(100), margins(0, 20, 0, 10))), "0 0 300 40, 190 0 100 40, 120 0 50 40"},
	})
}

// TestPutLines: P24.1: lines stand from the far side back, if Wrap is 2.
func TestPutLines(t *testing.T) {
	c := func(want string, side int, box ...edit) laid {
		return laid{`a{b c}`, and(kids(2, append(box, wrap(side), high(200))...), at(1, wide(300)), at(2, high(60))), "0 0 300 200, " + want}
	}
	check(t, []laid{
		c("0 0 300 40, 0 40 50 60", 1, content(1)), c("0 160 300 40, 0 100 50 60", 2, content(1)), c("0 0 300 40, 0 40 50 60", 3, content(1)), c("0 0 300 40, 0 40 50 60", -2, content(1)), c("0 60 300 40, 0 0 50 60", 2, content(2)), c("0 160 300 40, 250 100 50 60", 2, content(1), dir(axis.RowBack)),
		// What is ahead across is turned with them: the first line takes 90, the other one 110.
		c("0 160 300 40, 0 50 50 60", 2), c("0 110 300 40, 0 0 50 60", 2, items(2)), c("0 135 300 40, 0 25 50 60", 2, items(3)),
		// A single line too.
		{`a{b c}`, and(kids(2, wrap(2), high(100)), at(2, high(60))), "0 0 300 100, 0 60 50 40, 50 40 50 60"}, {`a{b c}`, and(kids(2, wrap(2), high(100), pads(7, 0, 9, 0)), at(2, high(60))), "0 0 300 116, 0 67 50 40, 50 47 50 60"}, {`a{b c}`, and(kids(2, high(100)), at(2, high(60))), "0 0 300 100, 0 0 50 40, 50 0 50 60"},
	})
}

// TestPutColumn: P24.1: items of a column stand where its way and its side say.
func TestPutColumn(t *testing.T) {
	c := func(want string, way, side int, box ...edit) laid {
		return laid{`a{b c}`, and(kids(2, append([]edit{dir(way), wrap(side), high(200)}, box...)...), at(2, high(60))), want}
	}
	check(t, []laid{
		c("0 0 300 200, 0 0 50 40, 0 40 50 60", axis.Column, 0), c("0 0 300 200, 0 160 50 40, 0 100 50 60", axis.ColumnBack, 0), c("0 0 300 200, 0 0 50 40, 0 40 50 60", axis.Column, 1), c("0 0 300 200, 250 0 50 40, 250 40 50 60", axis.Column, 2), c("0 0 300 200, 250 160 50 40, 250 100 50 60", axis.ColumnBack, 2), c("0 0 300 200, 0 0 50 40, 0 40 50 60", axis.Column, 2, items(2)), c("0 0 300 200, 0 60 50 40, 0 0 50 60", axis.ColumnBack, 0, justify(1)), c("0 0 300 200, 0 160 50 40, 0 90 50 60", axis.ColumnBack, 0, rowGap(fixed(10))),
		c("0 0 310 207, 260 7 50 40, 260 47 50 60", axis.Column, 2, pads(7, 0, 0, 10)), c("0 0 310 207, 10 167 50 40, 10 107 50 60", axis.ColumnBack, 0, pads(7, 0, 0, 10)),
		{`a{b c}`, kids(2, dir(axis.ColumnBack)), "0 0 300 80, 0 40 50 40, 0 0 50 40"},
		{`a{b}`, and(kids(1, dir(axis.ColumnBack), wrap(2), high(200)), at(1, margins(10, 30, 20, 40))), "0 0 300 200, 210 150 50 40"},
	})
}

// TestAdded: P24.1: X and Y are those of the parent's box, and how far from there a box begins.
func TestAdded(t *testing.T) {
	all := pads(1, 2, 3, 4)
	check(t, []laid{
		{`a{b{c{d} e} f}`, do(at(0, all, margins(10, 0, 0, 20), wide(500)), at(1, all, flex), at(2, all, wide(100), margins(5, 0, 0, 7)), at(3, high(30)), at(4, wide(50), high(60)), at(5, high(10), margin(api.Left, 9))), "20 10 506 78, 24 11 500 64, 35 17 106 55, 39 18 100 30, 141 12 50 60, 33 75 491 10"},
		{`a{b{c{d{"x"}}}}`, do(at(0, flex, dir(axis.RowBack), wide(300)), at(1, flex, dir(axis.ColumnBack), wide(200), high(100)), at(2, wide(90), high(70), pad(api.Left, 10)), at(3, margin(api.Top, 5), inline)), "0 0 300 100, 100 0 200 100, 100 30 100 70, 110 35 90 100, 110 35 50 100 1"},
	})
}
