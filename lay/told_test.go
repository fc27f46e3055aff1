package lay_test

import (
	"slices"
	"testing"

	"wainscot/api"
	"wainscot/axis"
	"wainscot/lay"
)

// happens is a page with what is told of it, in order.
type happens struct {
	text  string
	edits []on
	want  string
}

// tells fails if not just that is told of pages.
func tells(t *testing.T, l []happens) {
	t.Helper()
	v := api.View{W: 1000, H: 500}
	for i, c := range l {
		nodes := page(t, c.text)
		s := styles(len(nodes), c.edits...)
		var e trace
		boxes := lay.Walk(nodes, s, v, e.seal, e.frozen)
		if e.String() != c.want {
			t.Errorf("%d: %s:\n%s, not\n%s", i, c.text, e.String(), c.want)
		}
		if !slices.Equal(boxes, lay.Lay(nodes, s, v)) || !slices.Equal(boxes, lay.Walk(nodes, s, v, nil, nil)) {
			t.Errorf("%d: %s: other boxes", i, c.text)
		}
	}
}

// TestSeal: P24.2: who is told when a holder is sealed, and with what sizes.
func TestSeal(t *testing.T) {
	c := func(want string, edits ...edit) happens { return happens{`a`, do(at(0, edits...)), want} }
	frame := []edit{pads(1, 2, 3, 4), edge(api.Top, 10), edge(api.Left, 20)}
	tells(t, []happens{
		c(""), c("s0 1000 0", inline), c("s0 1000 0", sized), c("", holds(3)), c("", holds(-1)), c("", holds(highest)), c("", inline, hidden), c("s0 0 0", inline, wide(0)), c("s0 1000 0", inline, high(70)), c("s0 1000 70", sized, high(70)), c("s0 1000 70", sized, minHigh(70)), c("s0 1000 70", sized, high(90), maxHigh(70)), c("s0 1000 250", sized, highAs(half())), c("s0 1000 500", sized, ratio(2000, 1000)),
		// Sizes are those of the content.
		c("s0 974 0", append(frame, inline)...), c("s0 974 70", append(frame, sized, high(70))...), c("s0 74 56", append(frame, sized, border, wide(100), high(70))...), c("s0 0 0", append(frame, sized, border, wide(5), high(5))...),
		{`a{b{c{d}} e}`, do(at(0, inline), at(1, pad(api.Left, 10)), at(2, sized, high(5)), at(3, inline, wideAs(half())), at(4, inline)), "s0 1000 0, s2 990 5, s3 495 0, s4 1000 0"},
		// What is hidden is not told of.
		{`a{b{c} d}`, do(at(1, hidden, inline), at(2, inline), at(3, sized)), "s3 1000 0"},
		// A SizeBox of a flex box has its last sizes.
		{`a{b}`, do(at(0, flex, high(100)), at(1, sized, wide(50))), "f0 0, s1 50 100"}, {`a{b}`, do(at(0, flex, high(100)), at(1, sized, wide(50), grow(1000), pads(1, 2, 3, 4), maxHigh(60))), "f0 1, s1 994 60"}, {`a{b}`, do(at(0, flex, high(100), items(1)), at(1, sized, wide(50), high(30))), "f0 0, s1 50 30"}, {`a{b}`, do(stack(high(100)), at(1, sized, grow(1000), pad(api.Top, 9))), "f0 1, s1 300 91"},
		// Another one has its width alone, whatever its height.
		{`a{b}`, do(at(0, flex, high(100)), at(1, inline, wide(50))), "f0 0, s1 50 0"}, {`a{b}`, do(stack(high(100)), at(1, inline, grow(1000))), "s1 300 0, f0 1"},
	})
}

// TestFrozen: P24.2: who is told when lines and columns are resolved, and after how many rounds.
func TestFrozen(t *testing.T) {
	three := func(box ...edit) []on { return kids(3, box...) }
	tells(t, []happens{
		{`a{b c d}`, three(), "f0 0"}, {`a{b c d}`, and(three(), at(2, grow(1000))), "f0 1"}, {`a{b c d}`, and(three(), at(1, grow(1000), maxWide(60)), at(2, grow(1000))), "f0 2"}, {`a{b c d}`, and(three(), at(1, grow(1000), maxWide(60)), at(2, grow(1000), maxWide(100)), at(3, grow(1000))), "f0 3"}, {`a{b c d}`, three(wide(100)), "f0 1"},
		// Of each line.
		{`a{b c d}`, and(three(wide(100), wrap(1)), at(3, grow(1000))), "f0 1, f0 1"}, {`a{b c d}`, and(three(wide(10), wrap(2)), at(2, shrink(0))), "f0 1, f0 0, f0 1"},
		// Of each column; of a row in which nothing stands there is no line.
		{`a{b c d}`, three(dir(axis.Column)), "f0 1"}, {`a{b c d}`, three(dir(axis.Column), high(200)), "f0 0"}, {`a{b c d}`, and(three(dir(axis.ColumnBack), high(300)), at(2, grow(1000))), "f0 1"}, {`a`, do(stack()), "f0 0"}, {`a`, do(at(0, flex)), ""}, {`a`, do(at(0, flex, wrap(1))), ""},
		{`a`, nil, ""}, {`a{b}`, do(at(1, flex, hidden)), ""}, {`a{"x" b{c}}`, do(at(2, flex), at(3, flex, dir(axis.Column))), "f2 0, f3 0"},
	})
}

// TestOrder: P24.2: what is told as it happens: items but SizeBoxes are laid out for their own heights, these when theirs are the last ones.
func TestOrder(t *testing.T) {
	three := do(at(1, inline, wide(60)), at(2, sized, wide(60)), at(3, inline, wide(60)))
	tells(t, []happens{
		{`a{b c d}`, and(do(at(0, flex)), three...), "f0 0, s1 60 0, s3 60 0, s2 60 0"}, {`a{b c d}`, and(do(at(0, flex, wide(130), wrap(1))), three...), "f0 0, s1 60 0, f0 0, s3 60 0, s2 60 0"}, {`a{b c d}`, and(do(stack()), three...), "s1 60 0, s3 60 0, f0 1, s2 60 0"}, {`a{b c d}`, and(do(stack(), at(1, order(1))), three...), "s3 60 0, s1 60 0, f0 1, s2 60 0"},
		{`a{b{c}}`, do(at(0, flex), at(1, flex)), "f0 0, f1 1"}, {`a{b{c}}`, do(stack(), at(1, flex)), "f1 0, f0 1"}, {`a{b{c}}`, do(stack(), at(1, flex, sized)), "f0 1, s1 300 0, f1 0"}, {`a{b{c}}`, do(at(0, inline, flex), at(1, inline, flex)), "s0 1000 0, f0 0, s1 0 0, f1 1"},
	})
}

// TestChanged: P24.2: what stands beneath a holder is laid out with the styles that it has when that is sealed.
func TestChanged(t *testing.T) {
	l := page(t, `a{b{c{"ab"} "cd" d} e}`)
	v := api.View{W: 1000, H: 500}
	for _, kind := range []int{api.InlineBox, api.SizeBox} {
		last := styles(7, at(0, flex, wide(300), high(200)), at(1, holds(kind), wide(100), flex), at(2, font(50), high(30), order(1)), at(5, hidden), at(6, wide(20)))
		want := lay.Lay(l, last, v)
		for _, first := range []api.Style{{}, {Display: api.Hidden}, last[0], {Type: api.SizeBox}, {Font: highest, Order: lowest}} {
			s := slices.Clone(last)
			s[2], s[5] = first, first
			boxes := lay.Walk(l, s, v, func(i, w, h int) {
				if i != 1 {
					t.Errorf("%d is sealed", i)
				}
				s[2], s[5] = last[2], last[5]
			}, nil)
			if !slices.Equal(boxes, want) || !slices.Equal(s, last) {
				t.Errorf("%+v: %s, not %s", first, told(boxes), told(want))
			}
		}
	}
	// So asks who tells by the size what stands beneath.
	s := styles(7, at(1, inline, wide(100)))
	boxes := lay.Walk(l, s, v, func(i, w, h int) { s[2].H = fixed(w + i) }, nil)
	if got := told(boxes); got != "0 0 1000 201, 0 0 100 201, 0 0 100 101, 0 0 100 100 1, 0 101 100 100 1, 0 201 100 0, 0 201 1000 0" {
		t.Errorf("%s", got)
	}
}
