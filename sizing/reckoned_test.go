package sizing_test

import (
	"testing"

	"wainscot/api"
	"wainscot/fix"
	"wainscot/sizing"
)

// chance hands out numbers that look like chance, the same ones in every run.
type chance uint64

func (c *chance) below(n int) int {
	*c = *c*6364136223846793005 + 1442695040888963407
	return int(uint64(*c)>>33) % n
}

// oneOf is one of some.
func oneOf[T any](c *chance, l ...T) T {
	return l[c.below(len(l))]
}

// ends are numbers at which something may change.
func ends() []int {
	return []int{least, least + 1, -end - 1, -end, 1 - end, -64, -1, 0, 1, 64, end - 1, end, end + 1, 1<<32 + 1, most}
}

// The chapter's words, one by one. A size that says nothing says -1: no box is so large.
const silent = -1

// lengthOf is what a size of a frame is.
func lengthOf(z api.Size, avail int) int {
	if z.Kind == api.Fixed {
		return fix.Hold(z.N)
	}
	if z.Kind == api.Share {
		return fix.Percent(avail, z.N)
	}
	return 0
}

// aroundOf is what is around a box on two sides.
func aroundOf(c sizing.Case, a, b int) int {
	sum := 0
	for _, side := range []int{a, b} {
		sum += max(0, lengthOf(c.Style.Pad[side], c.Avail)) + max(0, fix.Hold(c.Style.Edge[side]))
	}
	return min(sum, end)
}

// boxed is a size as a box, sized a box as a size.
func boxed(c sizing.Case, n, around int) int {
	if c.Style.Border {
		return max(n, around)
	}
	return min(max(n, 0)+around, end)
}

func sized(c sizing.Case, n, around int) int {
	if c.Style.Border {
		return n
	}
	return max(0, fix.Hold(n)-around)
}

// freeOf is the free width.
func freeOf(c sizing.Case) int {
	n := fix.Sub(fix.Sub(c.Avail, lengthOf(c.Style.Margin[3], c.Avail)), lengthOf(c.Style.Margin[1], c.Avail))
	return max(n, aroundOf(c, 1, 3))
}

// saysOfW is what a size says of the width, saysOfH what it says of the height.
func saysOfW(c sizing.Case, z api.Size) int {
	own, widest := max(0, fix.Hold(c.Least)), max(0, fix.Hold(c.Most))
	switch z.Kind {
	case api.MinCont:
		return own
	case api.MaxCont:
		return widest
	case api.FitCont:
		return max(own, min(widest, freeOf(c)))
	case api.Fixed, api.Share:
		return boxed(c, lengthOf(z, c.Avail), aroundOf(c, 1, 3))
	}
	return silent
}

func saysOfH(c sizing.Case, z api.Size) int {
	if z.Kind == api.Fixed || z.Kind == api.Share && c.Base >= 0 {
		return boxed(c, lengthOf(z, c.Base), aroundOf(c, 0, 2))
	}
	return silent
}

// keptOf is a length kept, by what the most and the least one say.
func keptOf(n, most, least, around int) int {
	n = fix.Hold(n)
	if most != silent && n > most {
		n = most
	}
	if least != silent && n < least {
		n = least
	}
	if n < around {
		n = around
	}
	return n
}

func keptW(c sizing.Case, n int) int {
	return keptOf(n, saysOfW(c, c.Style.MaxW), saysOfW(c, c.Style.MinW), aroundOf(c, 1, 3))
}

func keptH(c sizing.Case, n int) int {
	return keptOf(n, saysOfH(c, c.Style.MaxH), saysOfH(c, c.Style.MinH), aroundOf(c, 0, 2))
}

// givenOf is the given height.
func givenOf(c sizing.Case) int {
	if n := saysOfH(c, c.Style.H); n != silent {
		return keptH(c, n)
	}
	return silent
}

// wideOf is the width in a line of its own.
func wideOf(c sizing.Case) int {
	n := saysOfW(c, c.Style.W)
	if n != silent {
		return keptW(c, n)
	}
	if h := givenOf(c); h != silent && c.Style.RatioN > 0 && c.Style.RatioD > 0 {
		return keptW(c, boxed(c, fix.Part(sized(c, h, aroundOf(c, 0, 2)), c.Style.RatioN, c.Style.RatioD), aroundOf(c, 1, 3)))
	}
	return keptW(c, freeOf(c))
}

// highOf is the height of a width.
func highOf(c sizing.Case, w, content int) int {
	n := givenOf(c)
	if n == silent && c.Style.RatioN > 0 && c.Style.RatioD > 0 {
		n = boxed(c, fix.Part(sized(c, w, aroundOf(c, 1, 3)), c.Style.RatioD, c.Style.RatioN), aroundOf(c, 0, 2))
	} else if n == silent {
		n = fix.Add(max(0, content), aroundOf(c, 0, 2))
	}
	return keptH(c, n)
}

// sidesOf is the margins beside a width.
func sidesOf(c sizing.Case, w int) (int, int) {
	l, r := c.Style.Margin[3], c.Style.Margin[1]
	left, right := lengthOf(l, c.Avail), lengthOf(r, c.Avail)
	rest := max(0, fix.Sub(c.Avail, w))
	if l.Kind == api.Auto && r.Kind == api.Auto {
		return rest / 2, (rest + 1) / 2
	}
	if l.Kind == api.Auto {
		left = max(0, fix.Sub(rest, right))
	}
	if r.Kind == api.Auto {
		right = max(0, fix.Sub(rest, left))
	}
	return left, right
}

// someLength is one that looks like chance.
func someLength(c *chance) int {
	return oneOf(c, 0, c.below(200), c.below(10000), -c.below(1000), oneOf(c, ends()...))
}

// someSize is a size that looks like chance.
func someSize(c *chance) api.Size {
	return oneOf(c,
		api.Size{}, fixed(c.below(8000)), fixed(someLength(c)), share(c.below(150000)), share(someLength(c)),
		api.Size{Kind: c.below(8), N: someLength(c)}, api.Size{Kind: oneOf(c, ends()...), N: someLength(c)})
}

// someCase is a case that looks like chance: with much that is usual, or with anything.
func someCase(c *chance) sizing.Case {
	k := caseOf(avail(c.below(10000)), base(c.below(10000)-2000))
	k.Least = c.below(2000)
	k.Most = k.Least + c.below(2000)
	if c.below(2) == 0 {
		k = caseOf(avail(someLength(c)), base(someLength(c)), own(someLength(c), someLength(c)))
	}
	s := &k.Style
	s.Border = c.below(2) == 0
	for _, z := range []*api.Size{&s.W, &s.H, &s.MinW, &s.MinH, &s.MaxW, &s.MaxH} {
		if c.below(2) == 0 {
			*z = someSize(c)
		}
	}
	for i := range 4 {
		s.Margin[i] = oneOf(c, kind(api.Auto), fixed(c.below(200)-50), someSize(c))
		s.Pad[i] = oneOf(c, fixed(0), fixed(c.below(50)), someSize(c))
		s.Edge[i] = oneOf(c, 0, c.below(50), someLength(c))
	}
	if c.below(2) == 0 {
		s.RatioN, s.RatioD = oneOf(c, 1000, 16000, someLength(c)), oneOf(c, 1000, 9000, someLength(c))
	}
	return k
}

// frameOf is the frame.
func frameOf(c sizing.Case) sizing.Frame {
	var f sizing.Frame
	for i := range 4 {
		f.Margin[i] = lengthOf(c.Style.Margin[i], c.Avail)
		f.Auto[i] = c.Style.Margin[i].Kind == api.Auto
		f.Pad[i] = max(0, lengthOf(c.Style.Pad[i], c.Avail))
		f.Edge[i] = max(0, fix.Hold(c.Style.Edge[i]))
	}
	return f
}

// TestFrames: P20.1, by the chapter's words.
func TestFrames(t *testing.T) {
	c := chance(1)
	for range 50000 {
		k := someCase(&c)
		if got := sizing.Of(k); got != frameOf(k) {
			t.Fatalf("%+v: %+v, not %+v", k, got, frameOf(k))
		}
		if w, h := sizing.Around(k); w != aroundOf(k, 1, 3) || h != aroundOf(k, 0, 2) {
			t.Fatalf("%+v: %d, %d", k, w, h)
		}
	}
}

// TestSaid: P20.2, by the chapter's words.
func TestSaid(t *testing.T) {
	c := chance(3)
	check := func(k sizing.Case, what string, n int, some bool, want int) {
		t.Helper()
		if some != (want != silent) || n != max(0, want) {
			t.Fatalf("%+v: %s %d, %v, not %d", k, what, n, some, want)
		}
	}
	for range 50000 {
		k, z, n := someCase(&c), someSize(&c), someLength(&c)
		w, some := sizing.SaysW(k, z)
		check(k, "width", w, some, saysOfW(k, z))
		h, some := sizing.SaysH(k, z)
		check(k, "height", h, some, saysOfH(k, z))
		given, some := sizing.Given(k)
		check(k, "given", given, some, givenOf(k))
		check(k, "kept across", sizing.KeepW(k, n), true, keptW(k, n))
		check(k, "kept down", sizing.KeepH(k, n), true, keptH(k, n))
	}
}

// TestLaid: P20.3, P20.4, P20.5, by the chapter's words.
func TestLaid(t *testing.T) {
	c := chance(5)
	for range 50000 {
		k, n, content := someCase(&c), someLength(&c), someLength(&c)
		if got := sizing.Wide(k); got != wideOf(k) {
			t.Fatalf("%+v: %d, not %d", k, got, wideOf(k))
		}
		left, right := sizing.Sides(k, n)
		if l, r := sidesOf(k, n); left != l || right != r {
			t.Fatalf("%+v: %d: %d, %d, not %d, %d", k, n, left, right, l, r)
		}
		if got := sizing.High(k, n, content); got != highOf(k, n, content) {
			t.Fatalf("%+v: %d, %d: %d, not %d", k, n, content, got, highOf(k, n, content))
		}
	}
}

// TestSmallest: P20.6: no box is smaller than what is around it; kept twice it stays.
func TestSmallest(t *testing.T) {
	c := chance(7)
	for range 50000 {
		k, n := someCase(&c), someLength(&c)
		across, down := sizing.Around(k)
		w, h := sizing.KeepW(k, n), sizing.KeepH(k, n)
		if sizing.KeepW(k, w) != w || sizing.KeepH(k, h) != h {
			t.Fatalf("%+v: %d, %d", k, w, h)
		}
		wide, high := sizing.Wide(k), sizing.High(k, n, someLength(&c))
		if min(w, wide) < across || min(h, high) < down {
			t.Fatalf("%+v: %d, %d across, %d, %d down", k, w, wide, h, high)
		}
		if sizing.KeepW(k, wide) != wide || sizing.KeepH(k, high) != high {
			t.Fatalf("%+v: %d, %d", k, wide, high)
		}
		if given, some := sizing.Given(k); some && (given < down || sizing.KeepH(k, given) != given) {
			t.Fatalf("%+v: %d", k, given)
		}
	}
}

// TestBorder: P20.7: with Border a Fixed width that is not less than what is around is the box's, else its content's.
func TestBorder(t *testing.T) {
	c := chance(9)
	for range 20000 {
		k := someCase(&c)
		n := oneOf(&c, c.below(10000), c.below(end), end)
		across, _ := sizing.Around(k)
		k.Style.W, k.Style.MinW, k.Style.MaxW = fixed(n), kind(api.Auto), kind(api.None)
		k.Style.Border = true
		if got := sizing.Wide(k); n >= across && got != n || got < across {
			t.Fatalf("%+v: %d, not %d", k, got, n)
		}
		k.Style.Border = false
		if got := sizing.Wide(k); n+across <= end && got-across != n {
			t.Fatalf("%+v: %d, not %d", k, got, n+across)
		}
	}
}

// TestAnything: P1: every call ends and none panics, whatever it is given, and every number is held.
func TestAnything(t *testing.T) {
	c := chance(11)
	one := func() int { return oneOf(&c, append(ends(), 2, 3, 4, 5, 6)...) }
	size := func() api.Size { return api.Size{Kind: one(), N: one()} }
	for range 50000 {
		k := sizing.Case{Avail: one(), Base: one(), Least: one(), Most: one(), Style: api.Style{
			Display: one(), Border: c.below(2) == 0, W: size(), H: size(), MinW: size(), MinH: size(), MaxW: size(), MaxH: size(),
			Margin: [4]api.Size{size(), size(), size(), size()}, Pad: [4]api.Size{size(), size(), size(), size()}, Edge: sides{one(), one(), one(), one()},
			RatioN: one(), RatioD: one(), Type: one(), Font: one(), Line: one()}}
		f := sizing.Of(k)
		across, down := sizing.Around(k)
		w, _ := sizing.SaysW(k, size())
		h, _ := sizing.SaysH(k, size())
		given, _ := sizing.Given(k)
		left, right := sizing.Sides(k, one())
		for _, n := range []int{across, down, w, h, given, sizing.KeepW(k, one()), sizing.KeepH(k, one()), sizing.Wide(k), sizing.High(k, one(), one())} {
			if n < 0 || n > end {
				t.Fatalf("%+v: %d", k, n)
			}
		}
		for _, n := range append([]int{left, right}, f.Margin[:]...) {
			if n != fix.Hold(n) {
				t.Fatalf("%+v: %d", k, n)
			}
		}
		if sizing.Wide(k) != wideOf(k) {
			t.Fatalf("%+v: %d, not %d", k, sizing.Wide(k), wideOf(k))
		}
	}
}
