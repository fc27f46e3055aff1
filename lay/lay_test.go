package lay_test

import (
	"testing"

	"wainscot/api"
	"wainscot/axis"
	"wainscot/lay"
)

// TestExamples: the chapter's own, and those of the document's that lay out.
func TestExamples(t *testing.T) {
	kid := []edit{high(64), margins(32, 0, 32, 0)}
	check(t, []laid{
		{`a{b c}`, do(at(0, wide(640)), at(1, kid...), at(2, kid...)), "0 0 640 224, 0 32 640 64, 0 128 640 64"},
		{`a{b{"x"}}`, do(at(1, sized)), "0 0 1000 0, 0 0 1000 0, 0 0 50 100 1"},
		{`a{b c}`, do(at(0, flex, wide(641)), at(1, grow(1000)), at(2, grow(1000))), "0 0 641 0, 0 0 321 0, 321 0 320 0"},
	})
}

// TestFirst: P24.1, of the first node.
func TestFirst(t *testing.T) {
	c := func(want string, edits ...edit) laid { return laid{`a`, do(at(0, edits...)), want} }
	check(t, []laid{
		c("0 0 1000 0"), c("0 0 300 200", wide(300), high(200)), c("0 0 500 250", wideAs(half()), highAs(half())),
		// Its margins are beside it, and above it; they don't come out of the page.
		c("40 10 940 0", margins(10, 20, 30, 40)), c("-40 -10 1020 0", margins(-10, 20, 30, -40)), c("350 0 300 0", wide(300), auto(api.Left, api.Right)), c("680 0 300 0", wide(300), auto(api.Left), margin(api.Right, 20)), c("0 0 300 0", wide(300), auto(api.Right)), c("0 0 1000 0", auto(api.Top)), c("100 50 900 0", marginAs(api.Left, share(10000)), marginAs(api.Top, share(5000))),
		c("0 0 1000 10", pads(1, 2, 3, 4), edge(api.Top, 6)), c("0 0 400 0", ratio(2000, 1000), wide(400), maxHigh(0)), c("0 0 400 200", ratio(2000, 1000), wide(400)), c("0 0 400 200", ratio(2000, 1000), high(200)),
		c("0 0 1000 0", flex), c("0 0 1000 0", flex, dir(axis.Column)), c("0 0 1000 7", sized, high(7)), c("0 0 1000 7", inline, minHigh(7)),
		// A Display that is none of the others is a block's.
		c("0 0 1000 0", display(3)), c("0 0 1000 0", display(-1)), c("-", hidden),
	})
	all := `a{b{"x"} "y"}`
	check(t, []laid{{all, nil, "0 0 1000 200, 0 0 1000 100, 0 0 50 100 1, 0 100 50 100 1"}, {all, do(at(0, hidden)), "-, -, -, -"}})
}

// TestWindow: P24.1: the window is the first node's room, and its percentages are of it.
func TestWindow(t *testing.T) {
	for _, c := range []struct {
		v    api.View
		want string
	}{
		{api.View{W: 1000, H: 500}, "0 0 1000 250, 0 0 1000 125"}, {api.View{}, "0 0 0 0, 0 0 0 0"}, {api.View{W: 7, H: -1}, "0 0 7 0, 0 0 7 0"}, {api.View{W: -7, H: 3}, "0 0 0 1, 0 0 0 0"},
		{api.View{W: highest, H: highest}, text(0, 0, end, end/2) + ", " + text(0, 0, end, end/4)}, {api.View{W: lowest, H: lowest}, "0 0 0 0, 0 0 0 0"},
	} {
		checkIn(t, c.v, []laid{{`a{b}`, do(at(0, highAs(half())), at(1, highAs(half()))), c.want}})
	}
}

// TestBlock: P24.1, of blocks.
func TestBlock(t *testing.T) {
	check(t, []laid{
		// Kids stand one beneath the other, at their left margins, as wide as the room.
		{`a{b c}`, do(at(1, high(30)), at(2, high(40))), "0 0 1000 70, 0 0 1000 30, 0 30 1000 40"},
		{`a{b c}`, do(at(1, high(30), margins(0, 20, 0, 10)), at(2, high(40), wide(100), auto(api.Left))), "0 0 1000 70, 10 0 970 30, 900 30 100 40"},
		{`a{b}`, do(at(1, wide(100), auto(api.Left, api.Right))), "0 0 1000 0, 450 0 100 0"},
		{`a{b}`, do(at(0, wide(300)), at(1, wideAs(half()), margin(api.Left, -20))), "0 0 300 0, -20 0 150 0"},
		// What is around the content is ahead of it, and makes the room less.
		{`a{b}`, do(at(0, pads(1, 2, 3, 4), edge(api.Top, 10), edge(api.Right, 20), edge(api.Bottom, 30), edge(api.Left, 40), margins(100, 0, 0, 200)), at(1, high(5))), "200 100 800 49, 244 111 734 5"},
		{`a{b{c}}`, do(at(0, wide(300), padAs(api.Left, share(10000))), at(1, pads(5, 0, 0, 7)), at(2, high(5))), "0 0 400 10, 100 0 300 10, 107 5 293 5"},
		{`a{b}`, do(at(0, wide(30), border, pads(0, 20, 0, 20)), at(1, high(5))), "0 0 40 5, 20 0 0 5"},
		// Who is not in the flow takes no place.
		{`a{b c{d} "" " " e}`, do(at(1, high(10)), at(2, hidden), at(3, high(10)), at(6, high(10))), "0 0 1000 20, 0 0 1000 10, -, -, -, -, 0 10 1000 10"},
		// The height: what H gives, else what the ratio makes, else the content's; kept.
		{`a{b}`, do(at(0, high(50)), at(1, high(90))), "0 0 1000 50, 0 0 1000 90"}, {`a{b}`, do(at(0, ratio(2000, 1000)), at(1, high(90))), "0 0 1000 500, 0 0 1000 90"}, {`a{b}`, do(at(0, maxHigh(70)), at(1, high(90))), "0 0 1000 70, 0 0 1000 90"}, {`a{b}`, do(at(0, minHigh(100), pads(1, 0, 2, 0)), at(1, high(90))), "0 0 1000 103, 0 1 1000 90"},
		// A flex box in a block is as wide as any block.
		{`a{b{c}}`, do(at(1, flex), at(2, wide(30), high(40))), "0 0 1000 40, 0 0 1000 40, 0 0 30 40"},
	})
}

// TestWords: P24.1, of words in blocks.
func TestWords(t *testing.T) {
	check(t, []laid{
		{`a{"ab cd"}`, nil, "0 0 1000 100, 0 0 225 100 1"}, {`a{"ab cd"}`, do(at(0, wide(225))), "0 0 225 100, 0 0 225 100 1"}, {`a{"ab cd"}`, do(at(0, wide(224))), "0 0 224 200, 0 0 100 200 2"},
		// Their box is as wide as the widest line, which may be too wide.
		{`a{"ab abcd a b"}`, do(at(0, wide(230))), "0 0 230 300, 0 0 200 300 3"}, {`a{"a b abcd"}`, do(at(0, wide(130))), "0 0 130 200, 0 0 200 200 2"}, {`a{"abcd a b"}`, do(at(0, wide(130))), "0 0 130 200, 0 0 200 200 2"}, {`a{"ab cd"}`, do(at(0, wide(0))), "0 0 0 200, 0 0 100 200 2"},
		// The em and the line are the element's: what stands at the words' own place in the styles does not count.
		{`a{b{"ab"} "cd"}`, do(at(0, font(200), line(500)), at(1, font(10), line(3000)), at(2, font(7), line(7), hidden, margins(9, 9, 9, 9))), "0 0 1000 130, 0 0 1000 30, 0 0 10 30 1, 0 30 200 100 1"},
		{`a{"ab cd"}`, do(at(0, font(-100))), "0 0 1000 0, 0 0 0 0 1"}, {`a{"ab cd"}`, do(at(0, font(lowest))), "0 0 1000 0, 0 0 0 0 1"}, {`a{"ab cd"}`, do(at(0, line(-1000))), "0 0 1000 0, 0 0 225 0 1"}, {`a{"ab cd"}`, do(at(0, font(-100), line(-1000))), "0 0 1000 0, 0 0 0 0 1"}, {`a{"ab cd"}`, do(at(0, flex, font(-100), line(-1000))), "0 0 1000 0, 0 0 0 0 1"},
		// They have no margins, and begin where the content does.
		{`a{b "ab" c}`, do(at(0, pads(0, 0, 0, 5)), at(1, high(10), margin(api.Bottom, 20)), at(3, high(10), margin(api.Top, 30))), "0 0 1000 170, 5 0 995 10, 5 30 100 100 1, 5 160 995 10"},
	})
}

// TestComingOut: P24.1: margins come out of a block that is open there.
func TestComingOut(t *testing.T) {
	c := func(want string, edits ...edit) laid {
		edits = append([]edit{margins(10, 0, 20, 0)}, edits...)
		return laid{`a{b{c}}`, do(at(1, edits...), at(2, high(64), margins(32, 0, 40, 0))), want}
	}
	const (
		open   = "0 0 1000 136, 0 32 1000 64, 0 32 1000 64"
		top    = "0 0 1000 147, 0 10 1000 97, 0 43 1000 64"
		bottom = "0 0 1000 157, 0 32 1000 105, 0 32 1000 64"
		closed = "0 0 1000 156, 0 32 1000 104, 0 32 1000 64"
		apart  = "0 0 1000 166, 0 10 1000 136, 0 42 1000 64"
	)
	check(t, []laid{
		c(open), c("0 0 1000 136, 0 32 1000 64, 9 32 982 64", pads(0, 9, 0, 9)), c(open, padAs(api.Top, share(0)), pad(api.Bottom, -5), edge(api.Top, -1)), c(open, highAs(half())), c(open, highAs(kind(api.None))), c(open, ratio(1000, 0)), c(open, ratio(-1, 5)), c(open, maxHigh(64)), c(open, maxHigh(100)), c(open, holds(3)), c(open, display(3)),
		c(top, pad(api.Top, 1)), c(top, edge(api.Top, 1)), c(bottom, pad(api.Bottom, 1)), c(bottom, edge(api.Bottom, 1)),
		// The bottom alone is closed by a height, a ratio, a MinH of whatever kind.
		c("0 0 1000 116, 0 32 1000 64, 0 32 1000 64", high(64)), c("0 0 1000 152, 0 32 1000 100, 0 32 1000 64", ratio(1000, 100)), c(closed, minHigh(0)), c(closed, minHighAs(half())), c(closed, minHighAs(kind(api.None))),
		c("0 0 1000 82, 0 32 1000 10, 0 32 1000 64", maxHigh(10)),
		// What is apart lets nothing out.
		c(apart, inline), c("0 0 1000 30, 0 10 1000 0, 0 42 1000 64", sized), c("0 0 1000 166, 0 10 1000 136, 0 42 0 64", flex), c("0 0 1000 166, 0 10 1000 136, 0 42 1000 64", flex, dir(axis.Column)),
		{`a{b}`, do(at(1, high(64), margins(32, 0, 40, 0))), "0 0 1000 136, 0 32 1000 64"}, {`a{b{c}}`, do(at(0, flex), at(2, high(64), margins(32, 0, 40, 0))), "0 0 1000 136, 0 0 0 136, 0 32 0 64"},
		// Of a height that is given of the room's.
		{`a{b{c}}`, do(at(0, high(1000)), at(1, highAs(half()), margins(10, 0, 20, 0)), at(2, high(64), margins(32, 0, 40, 0))), "0 0 1000 1000, 0 32 1000 500, 0 32 1000 64"},
		// The greatest one and the least one count, through however many blocks.
		{`a{b{c{d}}}`, do(at(1, margins(-10, 0, 3, 0)), at(2, margins(30, 0, -20, 0)), at(3, high(64), margins(5, 0, -2, 0))), "0 0 1000 67, 0 20 1000 64, 0 20 1000 64, 0 20 1000 64"},
		{`a{b{c} d{e}}`, do(at(2, high(10), margin(api.Bottom, 30)), at(4, high(10), margin(api.Top, 40))), "0 0 1000 60, 0 0 1000 10, 0 0 1000 10, 0 50 1000 10, 0 50 1000 10"},
	})
}

// TestThrough: P24.1: margins go through what has nothing in it.
func TestThrough(t *testing.T) {
	through := func(want string, edits ...edit) laid {
		return laid{`a{b}`, do(at(1, append(edits, margins(10, 0, 30, 0))...)), want}
	}
	check(t, []laid{
		through("0 0 1000 30, 0 10 1000 0"), through("0 0 1000 40, 0 10 1000 0", high(0)), through("0 0 1000 40, 0 10 1000 0", minHigh(0)), through("0 0 1000 40, 0 10 1000 0", inline), through("0 0 1000 40, 0 10 1000 0", sized), through("0 0 1000 40, 0 10 1000 0", flex), through("0 0 1000 41, 0 10 1000 1", pad(api.Top, 1)), through("0 0 1000 41, 0 10 1000 1", edge(api.Bottom, 1)),
		{`a{b c}`, do(at(1, margins(10, 0, 30, 0)), at(2, high(64), margin(api.Top, 5))), "0 0 1000 94, 0 10 1000 0, 0 30 1000 64"},
		{`a{b{c{d}}}`, do(at(1, margins(1, 0, 2, 0)), at(2, margins(3, 0, 40, 0)), at(3, margins(-5, 0, 7, 0))), "0 0 1000 35, 0 35 1000 0, 0 35 1000 0, 0 35 1000 0"},
		// Ahead of what has something, and behind it.
		{`a{b{c d}}`, do(at(2, margins(10, 0, 50, 0)), at(3, high(20), margin(api.Top, 30))), "0 0 1000 70, 0 50 1000 20, 0 50 1000 0, 0 50 1000 20"},
		{`a{b{c d} e}`, do(at(2, high(20)), at(3, margins(5, 0, 15, 0)), at(4, high(10), margin(api.Top, 10))), "0 0 1000 45, 0 0 1000 20, 0 0 1000 20, 0 25 1000 0, 0 35 1000 10"},
		// Who is not in the flow is nothing, words are something.
		{`a{b{"  " c}}`, do(at(1, margins(10, 0, 30, 0)), at(3, hidden, high(9))), "0 0 1000 30, 0 10 1000 0, -, -"}, {`a{b{"x"}}`, do(at(1, margins(10, 0, 30, 0))), "0 0 1000 140, 0 10 1000 100, 0 10 50 100 1"}, {`a{b{"x"}}`, do(at(1, margins(10, 0, 30, 0), font(0))), "0 0 1000 40, 0 10 1000 0, 0 10 0 0 1"},
	})
}

// TestPercentages: P24.1: what kids' percentages of heights are of.
func TestPercentages(t *testing.T) {
	c := func(want string, edits ...edit) laid {
		return laid{`a{b{c}}`, do(at(0, edits...), at(1, highAs(half())), at(2, highAs(half()))), want}
	}
	const known, nobody = "0 0 1000 200, 0 0 1000 100, 0 0 1000 50", "0 0 1000 200, 0 0 1000 0, 0 0 1000 0"
	check(t, []laid{
		c(known, high(200)), c("0 0 1000 240, 0 10 1000 100, 0 10 1000 50", high(200), pads(10, 0, 30, 0)), c("0 0 1000 200, 0 10 1000 80, 0 10 1000 40", high(200), pads(10, 0, 30, 0), border), c("0 0 1000 50, 0 30 1000 0, 0 30 1000 0", high(10), pads(30, 0, 20, 0), border),
		c(known, high(300), maxHigh(200)), c(known, high(100), minHigh(200)), c(known, high(200), inline), c(known, high(200), flex, dir(axis.Column)),
		// Not of what a ratio makes, or MinH.
		c(nobody, ratio(1000, 200)), c(nobody, minHigh(200)), c(nobody, ratio(1000, 200), inline),
		// Of a SizeBox always.
		c(known, high(200), sized), c(known, ratio(1000, 200), sized), c(known, minHigh(200), sized), c("0 0 1000 0, 0 0 1000 0, 0 0 1000 0", sized), c("0 0 1000 240, 0 10 1000 100, 0 10 1000 50", minHigh(200), pads(10, 0, 30, 0), sized),
	})
	most := at(1, high(30), maxHighAs(half()))
	check(t, []laid{{`a{b}`, do(at(0, sized), most), "0 0 1000 0, 0 0 1000 0"}, {`a{b}`, do(most), "0 0 1000 30, 0 0 1000 30"}, {`a{b}`, do(at(0, high(0)), most), "0 0 1000 0, 0 0 1000 0"}})
}

// TestNone: P24.1: of a list that is no tree there are no boxes, and nobody is told anything.
func TestNone(t *testing.T) {
	deep := make([]api.Node, api.MaxDepth+1)
	for i := range deep {
		deep[i] = api.Node{Parent: i - 1, Tag: "a"}
	}
	many := make([]api.Node, api.MaxNodes+1)
	for i := range many {
		many[i] = api.Node{Parent: min(0, i-1), Tag: "a"}
	}
	for i, l := range [][]api.Node{nil, {}, deep, many, {{Parent: -1, Text: "x"}}, {{Parent: 0, Tag: "a"}}, {{Parent: -1, Tag: "1"}}, {{Parent: -1, Tag: "a"}, {Parent: -1, Tag: "b"}}, {{Parent: -1, Tag: "a"}, {Parent: 1, Tag: "b"}}, {{Parent: -1, Tag: "a"}, {Parent: 0, Text: "x"}, {Parent: 1, Tag: "b"}}, {{Parent: -1, Tag: "a"}, {Parent: 0, Tag: "b", Text: "x"}}} {
		s := styles(len(l))
		for k := range s {
			s[k].Type = api.InlineBox
		}
		var e trace
		if got := lay.Lay(l, s, api.View{W: 10, H: 10}); len(got) > 0 {
			t.Errorf("%d: %v", i, got)
		}
		if got := lay.Walk(l, s, api.View{W: 10, H: 10}, e.seal, e.frozen); len(got) > 0 || len(e) > 0 {
			t.Errorf("%d: %v, %v", i, got, e)
		}
	}
	if got := lay.Lay(deep[:api.MaxDepth], styles(api.MaxDepth), api.View{}); len(got) != api.MaxDepth || !got[api.MaxDepth-1].Shown {
		t.Errorf("%v", got)
	}
	if got := lay.Lay(many[:api.MaxNodes], styles(api.MaxNodes), api.View{}); len(got) != api.MaxNodes || !got[api.MaxNodes-1].Shown {
		t.Errorf("%v", got)
	}
}

// TestFewStyles: P24.1: a node beyond the styles has the zero one, of whose margins all take what is free.
func TestFewStyles(t *testing.T) {
	l := page(t, `a{b{"x"} "y"}`)
	v := api.View{W: 1000, H: 500}
	for n, want := range []string{"0 0 1000 0, 0 0 1000 0, 0 0 0 0 1, 0 0 0 0 1", "0 0 1000 100, 0 0 1000 0, 0 0 0 0 1, 0 0 50 100 1", "0 0 1000 200, 0 0 1000 100, 0 0 50 100 1, 0 100 50 100 1", "0 0 1000 200, 0 0 1000 100, 0 0 50 100 1, 0 100 50 100 1"} {
		if got := told(lay.Lay(l, styles(n), v)); got != want {
			t.Errorf("%d: %s, not %s", n, got, want)
		}
	}
	if got := told(lay.Lay(l, styles(9), v)); got != "0 0 1000 200, 0 0 1000 100, 0 0 50 100 1, 0 100 50 100 1" {
		t.Errorf("%s", got)
	}
}
