package lay_test

import (
	"math"
	"strconv"
	"strings"
	"testing"

	"wainscot/api"
	"wainscot/lay"
	"wainscot/markup"
	"wainscot/style"
)

const (
	lowest  = math.MinInt
	highest = math.MaxInt
	end     = api.MaxLen
)

type edit = func(s *api.Style)

// page is a text's tree.
func page(t *testing.T, s string) []api.Node {
	t.Helper()
	l, at, e := markup.Parse(s)
	if e != api.OK {
		t.Fatalf("%q: %d at %d", s, e, at)
	}
	return l
}

// plain is the style of nothing with an em of 100 and lines that are as high: "ab cd" is 225 wide, its words 100.
func plain() api.Style {
	s := style.Start()
	s.Font, s.Line = 100, 1000
	return s
}

// on is edits of one node's style.
type on struct {
	node int
	do   []edit
}

// at edits a node's style.
func at(node int, do ...edit) on { return on{node, do} }

// do is edits of some nodes.
func do(l ...on) []on { return l }

// styles are as many plain ones, with what is told done to them.
func styles(n int, edits ...on) []api.Style {
	s := make([]api.Style, n)
	for i := range s {
		s[i] = plain()
	}
	for _, e := range edits {
		for _, do := range e.do {
			do(&s[e.node])
		}
	}
	return s
}

// Sizes.

func fixed(n int) api.Size { return api.Size{Kind: api.Fixed, N: n} }
func share(n int) api.Size { return api.Size{Kind: api.Share, N: n} }
func kind(n int) api.Size  { return api.Size{Kind: n} }

// half is a percentage.
func half() api.Size { return share(50000) }

// What a style has. Lengths that are told as numbers are Fixed.

func display(n int) edit     { return func(s *api.Style) { s.Display = n } }
func holds(n int) edit       { return func(s *api.Style) { s.Type = n } }
func dir(n int) edit         { return func(s *api.Style) { s.Dir = n } }
func wrap(n int) edit        { return func(s *api.Style) { s.Wrap = n } }
func order(n int) edit       { return func(s *api.Style) { s.Order = n } }
func justify(n int) edit     { return func(s *api.Style) { s.Justify = n } }
func items(n int) edit       { return func(s *api.Style) { s.Items = n } }
func self(n int) edit        { return func(s *api.Style) { s.Self = n } }
func content(n int) edit     { return func(s *api.Style) { s.Content = n } }
func colGap(z api.Size) edit { return func(s *api.Style) { s.ColGap = z } }
func rowGap(z api.Size) edit { return func(s *api.Style) { s.RowGap = z } }
func font(n int) edit        { return func(s *api.Style) { s.Font = n } }
func line(n int) edit        { return func(s *api.Style) { s.Line = n } }
func basisAs(z api.Size) edit {
	return func(s *api.Style) { s.Basis = z }
}
func basis(n int) edit          { return basisAs(fixed(n)) }
func wideAs(z api.Size) edit    { return func(s *api.Style) { s.W = z } }
func wide(n int) edit           { return wideAs(fixed(n)) }
func highAs(z api.Size) edit    { return func(s *api.Style) { s.H = z } }
func high(n int) edit           { return highAs(fixed(n)) }
func minWideAs(z api.Size) edit { return func(s *api.Style) { s.MinW = z } }
func minWide(n int) edit        { return minWideAs(fixed(n)) }
func maxWideAs(z api.Size) edit { return func(s *api.Style) { s.MaxW = z } }
func maxWide(n int) edit        { return maxWideAs(fixed(n)) }
func minHighAs(z api.Size) edit { return func(s *api.Style) { s.MinH = z } }
func minHigh(n int) edit        { return minHighAs(fixed(n)) }
func maxHighAs(z api.Size) edit { return func(s *api.Style) { s.MaxH = z } }
func maxHigh(n int) edit        { return maxHighAs(fixed(n)) }
func ratio(n, d int) edit       { return func(s *api.Style) { s.RatioN, s.RatioD = n, d } }
func grow(n int) edit           { return func(s *api.Style) { s.Grow = n } }
func shrink(n int) edit         { return func(s *api.Style) { s.Shrink = n } }
func border(s *api.Style)       { s.Border = true }
func flex(s *api.Style)         { s.Display = api.Flex }
func hidden(s *api.Style)       { s.Display = api.Hidden }
func inline(s *api.Style)       { s.Type = api.InlineBox }
func sized(s *api.Style)        { s.Type = api.SizeBox }

// margin, pad and edge are those of one side.

func marginAs(side int, z api.Size) edit { return func(s *api.Style) { s.Margin[side] = z } }
func padAs(side int, z api.Size) edit    { return func(s *api.Style) { s.Pad[side] = z } }
func margin(side, n int) edit            { return marginAs(side, fixed(n)) }
func pad(side, n int) edit               { return padAs(side, fixed(n)) }
func edge(side, n int) edit              { return func(s *api.Style) { s.Edge[side] = n } }

// auto makes margins take what is free.
func auto(sides ...int) edit {
	return func(s *api.Style) {
		for _, side := range sides {
			s.Margin[side] = api.Size{}
		}
	}
}

// margins and pads are those of all sides, as they go: top, right, bottom, left.

func margins(top, right, bottom, left int) edit {
	return func(s *api.Style) {
		s.Margin = [4]api.Size{fixed(top), fixed(right), fixed(bottom), fixed(left)}
	}
}

func pads(top, right, bottom, left int) edit {
	return func(s *api.Style) {
		s.Pad = [4]api.Size{fixed(top), fixed(right), fixed(bottom), fixed(left)}
	}
}

// text is numbers as a text.
func text(l ...int) string {
	var s []string
	for _, n := range l {
		s = append(s, strconv.Itoa(n))
	}
	return strings.Join(s, " ")
}

// told is boxes as a text: X, Y, W, H, and Lines, if there are any; - is a box of nothing, and no box that is not shown may be another one.
func told(l []api.Box) string {
	var s []string
	for _, b := range l {
		switch {
		case b == api.Box{}:
			s = append(s, "-")
		case !b.Shown:
			s = append(s, "hidden "+text(b.X, b.Y, b.W, b.H, b.Lines))
		case b.Lines == 0:
			s = append(s, text(b.X, b.Y, b.W, b.H))
		default:
			s = append(s, text(b.X, b.Y, b.W, b.H, b.Lines))
		}
	}
	return strings.Join(s, ", ")
}

// laid is a page with what is asked for of its boxes.
type laid struct {
	text  string
	edits []on
	want  string
}

// check fails if pages are not laid out as asked for, in a window of 1000 and 500.
func check(t *testing.T, l []laid) {
	t.Helper()
	checkIn(t, api.View{W: 1000, H: 500}, l)
}

// checkIn is check in a window that is told.
func checkIn(t *testing.T, v api.View, l []laid) {
	t.Helper()
	for i, c := range l {
		nodes := page(t, c.text)
		if got := told(lay.Lay(nodes, styles(len(nodes), c.edits...), v)); got != c.want {
			t.Errorf("%d: %s:\n%s, not\n%s", i, c.text, got, c.want)
		}
	}
}

// trace is who is told of holders and lines: what it was told is a text, s with a holder's number and sizes, f with a box's and rounds.
type trace []string

func (e *trace) seal(i, w, h int) { *e = append(*e, "s"+text(i, w, h)) }
func (e *trace) frozen(i, n int)  { *e = append(*e, "f"+text(i, n)) }
func (e *trace) String() string   { return strings.Join(*e, ", ") }
