package strut_test

import (
	"slices"
	"testing"

	"wainscot/api"
	"wainscot/fix"
	"wainscot/strut"
)

type (
	parts = []strut.Part
	stack = strut.Stack
)

// solid is a part that is not Through, through one that is.
func solid(top, h, bottom int) strut.Part {
	return strut.Part{Top: of(top), Bottom: of(bottom), H: h}
}

func through(top, bottom int) strut.Part {
	return strut.Part{Top: of(top), Bottom: of(bottom), Through: true}
}

// same tells whether stacks are the same, whether a list without elements is nil or not.
func same(a, b stack) bool {
	return slices.Equal(a.At, b.At) && a.Head == b.Head && a.Foot == b.Foot && a.H == b.H && a.Through == b.Through
}

// putIs is a stack that is asked for: of the box with neither open, with the top, with the bottom, with both.
type putIs struct {
	l                    parts
	none, top, foot, all stack
}

// check fails if parts don't stack as asked for.
func (c putIs) check(t *testing.T) {
	t.Helper()
	for i, want := range []stack{c.none, c.top, c.foot, c.all} {
		if got := strut.Put(c.l, i&1 != 0, i&2 != 0); !same(got, want) {
			t.Errorf("%v, top open %v, bottom open %v: %v, not %v", c.l, i&1 != 0, i&2 != 0, got, want)
		}
	}
}

// TestPut: P19.2.
func TestPut(t *testing.T) {
	at := func(l ...int) []int { return l }
	for _, c := range []putIs{
		{nil, stack{}, stack{}, stack{}, stack{Through: true}},
		{parts{}, stack{}, stack{}, stack{}, stack{Through: true}},
		// One part: a strut that is open takes no room.
		{parts{solid(0, 0, 0)}, stack{At: at(0)}, stack{At: at(0)}, stack{At: at(0)}, stack{At: at(0)}},
		{parts{solid(10, 64, 20)}, stack{At: at(10), H: 94}, stack{At: at(0), Head: of(10), H: 84}, stack{At: at(10), Foot: of(20), H: 74}, stack{At: at(0), Head: of(10), Foot: of(20), H: 64}},
		{parts{solid(10, 0, 20)}, stack{At: at(10), H: 30}, stack{At: at(0), Head: of(10), H: 20}, stack{At: at(10), Foot: of(20), H: 10}, stack{At: at(0), Head: of(10), Foot: of(20)}},
		{parts{solid(-10, 64, -20)}, stack{At: at(-10), H: 34}, stack{At: at(0), Head: of(-10), H: 44}, stack{At: at(-10), Foot: of(-20), H: 54}, stack{At: at(0), Head: of(-10), Foot: of(-20), H: 64}},
		// Two: the struts between them are joined.
		{parts{solid(1, 64, 10), solid(20, 64, 2)}, stack{At: at(1, 85), H: 151}, stack{At: at(0, 84), Head: of(1), H: 150}, stack{At: at(1, 85), Foot: of(2), H: 149}, stack{At: at(0, 84), Head: of(1), Foot: of(2), H: 148}},
		{parts{solid(0, 64, 10), solid(-4, 64, 0)}, stack{At: at(0, 70), H: 134}, stack{At: at(0, 70), H: 134}, stack{At: at(0, 70), H: 134}, stack{At: at(0, 70), H: 134}},
		{parts{solid(0, 64, -3), solid(-4, 64, 0)}, stack{At: at(0, 60), H: 124}, stack{At: at(0, 60), H: 124}, stack{At: at(0, 60), H: 124}, stack{At: at(0, 60), H: 124}},
		// None but what is Through.
		{parts{through(10, 20)}, stack{At: at(10), H: 20}, stack{At: at(0), Head: of(20)}, stack{At: at(10), Foot: of(20)}, stack{At: at(0), Head: of(20), Through: true}},
		{parts{through(10, -4)}, stack{At: at(10), H: 6}, stack{At: at(0), Head: both(10, -4)}, stack{At: at(10), Foot: both(10, -4)}, stack{At: at(0), Head: both(10, -4), Through: true}},
		{parts{through(-3, -4)}, stack{At: at(-3)}, stack{At: at(0), Head: of(-4)}, stack{At: at(-3), Foot: of(-4)}, stack{At: at(0), Head: of(-4), Through: true}},
		{parts{through(5, 7), through(3, 20), through(1, 1)}, stack{At: at(5, 7, 20), H: 20}, stack{At: at(0, 0, 0), Head: of(20)}, stack{At: at(5, 7, 20), Foot: of(20)}, stack{At: at(0, 0, 0), Head: of(20), Through: true}},
		// What is Through ahead of others, between them, and behind: its height does not count.
		{parts{through(30, 5), solid(10, 64, 0)}, stack{At: at(30, 30), H: 94}, stack{At: at(0, 0), Head: of(30), H: 64}, stack{At: at(30, 30), H: 94}, stack{At: at(0, 0), Head: of(30), H: 64}},
		{parts{through(5, 30), solid(-10, 64, 0)}, stack{At: at(5, 20), H: 84}, stack{At: at(0, 0), Head: both(30, -10), H: 64}, stack{At: at(5, 20), H: 84}, stack{At: at(0, 0), Head: both(30, -10), H: 64}},
		{parts{solid(0, 64, 10), {Top: of(5), Bottom: of(30), H: 999, Through: true}, solid(20, 64, 0)}, stack{At: at(0, 74, 94), H: 158}, stack{At: at(0, 74, 94), H: 158}, stack{At: at(0, 74, 94), H: 158}, stack{At: at(0, 74, 94), H: 158}},
		{parts{solid(1, 64, 10), through(15, -3)}, stack{At: at(1, 80), H: 77}, stack{At: at(0, 79), Head: of(1), H: 76}, stack{At: at(1, 80), Foot: both(15, -3), H: 65}, stack{At: at(0, 79), Head: of(1), Foot: both(15, -3), H: 64}},
		{parts{{H: 999, Through: true}}, stack{At: at(0)}, stack{At: at(0)}, stack{At: at(0)}, stack{At: at(0), Through: true}},
	} {
		c.check(t)
	}
}

// TestPutOdd: P19.2, of what no margins make, and at the ends.
func TestPutOdd(t *testing.T) {
	const end = api.MaxLen
	at := func(l ...int) []int { return l }
	for _, c := range []putIs{
		// A height is at least 0, even where what makes it is below.
		{parts{solid(0, 10, -30)}, stack{At: at(0)}, stack{At: at(0)}, stack{At: at(0), Foot: of(-30), H: 10}, stack{At: at(0), Foot: of(-30), H: 10}},
		{parts{solid(-30, 10, 0)}, stack{At: at(-30)}, stack{At: at(0), Head: of(-30), H: 10}, stack{At: at(-30)}, stack{At: at(0), Head: of(-30), H: 10}},
		{parts{solid(0, -50, 0), solid(0, 20, 0)}, stack{At: at(0, -50)}, stack{At: at(0, -50)}, stack{At: at(0, -50)}, stack{At: at(0, -50)}},
		{parts{solid(0, -50, 0), solid(0, 80, 0)}, stack{At: at(0, -50), H: 30}, stack{At: at(0, -50), H: 30}, stack{At: at(0, -50), H: 30}, stack{At: at(0, -50), H: 30}},
		// Numbers are held, one sum behind the other.
		{parts{solid(most, 64, most)}, stack{At: at(end), H: end}, stack{At: at(0), Head: of(end), H: end}, stack{At: at(end), Foot: of(end), H: end}, stack{At: at(0), Head: of(end), Foot: of(end), H: 64}},
		{parts{solid(least, 64, least)}, stack{At: at(-end)}, stack{At: at(0), Head: of(-end)}, stack{At: at(-end), Foot: of(-end)}, stack{At: at(0), Head: of(-end), Foot: of(-end), H: 64}},
		{parts{solid(0, most, 0), solid(64, 64, -10)}, stack{At: at(0, end), H: end - 10}, stack{At: at(0, end), H: end - 10}, stack{At: at(0, end), Foot: of(-10), H: end}, stack{At: at(0, end), Foot: of(-10), H: end}},
		{parts{solid(0, least, 0), solid(0, 64, 0)}, stack{At: at(0, -end)}, stack{At: at(0, -end)}, stack{At: at(0, -end)}, stack{At: at(0, -end)}},
		{parts{through(most, least)}, stack{At: at(end)}, stack{At: at(0), Head: both(end, -end)}, stack{At: at(end), Foot: both(end, -end)}, stack{At: at(0), Head: both(end, -end), Through: true}},
		// A strut's Up may be below 0, its Down above: the empty one's are not.
		{parts{{Top: both(-5, 7), Bottom: both(-3, 4), H: 64}}, stack{At: at(0), H: 65}, stack{At: at(0), H: 65}, stack{At: at(0), Foot: both(-3, 4), H: 64}, stack{At: at(0), Foot: both(-3, 4), H: 64}},
		{parts{{Bottom: both(-9, 4), H: 64}, {Top: both(-5, 7), H: 1}}, stack{At: at(0, 63), H: 64}, stack{At: at(0, 63), H: 64}, stack{At: at(0, 63), H: 64}, stack{At: at(0, 63), H: 64}},
		{parts{{Bottom: both(-9, 4), H: 64}, {Top: both(-5, 7), Bottom: both(-5, 7), Through: true}}, stack{At: at(0, 63), H: 63}, stack{At: at(0, 63), H: 63}, stack{At: at(0, 63), Foot: both(-5, 4), H: 64}, stack{At: at(0, 63), Foot: both(-5, 4), H: 64}},
	} {
		c.check(t)
	}
}

// The chapter's words: each part's place, reckoned anew from the last one ahead of it that is not Through.

// aheadOf is that one's number (-1, if there is none), and the strut behind it up to part i, with its Top, if there is such a part.
func aheadOf(l parts, i int) (int, strut.Strut) {
	j := i - 1
	for j >= 0 && l[j].Through {
		j--
	}
	var s strut.Strut
	if j >= 0 {
		s = both(fix.Hold(l[j].Bottom.Up), fix.Hold(l[j].Bottom.Down))
	}
	for k := j + 1; k <= i && k < len(l); k++ {
		s = strut.Join(s, l[k].Top)
		if k < i {
			s = strut.Join(s, l[k].Bottom)
		}
	}
	return j, s
}

// endOf is where part j ends: 0, if there is none.
func endOf(l parts, j int, top bool) int {
	if j < 0 {
		return 0
	}
	return fix.Add(placeOf(l, j, top), l[j].H)
}

// placeOf is where part i stands.
func placeOf(l parts, i int, top bool) int {
	j, s := aheadOf(l, i)
	if top && j < 0 {
		return 0
	}
	return fix.Add(endOf(l, j, top), fix.Add(s.Up, s.Down))
}

// putOf is the stack.
func putOf(l parts, top, bottom bool) stack {
	var k stack
	first := slices.IndexFunc(l, func(p strut.Part) bool { return !p.Through })
	for i := range l {
		k.At = append(k.At, placeOf(l, i, top))
	}
	last, s := aheadOf(l, len(l))
	y := endOf(l, last, top)
	if first < 0 {
		switch {
		case top && bottom:
			k.Head, k.Through = s, true
		case top:
			k.Head = s
		case bottom:
			k.Foot = s
		default:
			k.H = max(0, fix.Add(s.Up, s.Down))
		}
		return k
	}
	if top {
		_, k.Head = aheadOf(l, first)
	}
	if bottom {
		k.Foot, k.H = s, max(0, y)
	} else {
		k.H = max(0, fix.Add(y, fix.Add(s.Up, s.Down)))
	}
	return k
}

// follows fails if a stack is not as P19.4 and P19.5 say.
func follows(t *testing.T, l parts, top, bottom bool, k stack) {
	t.Helper()
	for i := 1; i < len(l); i++ {
		if l[i-1].Through || l[i].Through {
			continue
		}
		between := strut.Worth(strut.Join(l[i-1].Bottom, l[i].Top))
		if k.At[i] != fix.Add(fix.Add(k.At[i-1], l[i-1].H), between) {
			t.Fatalf("%v, %v, %v: %v", l, top, bottom, k)
		}
	}
	if !top && !bottom && (k.Head != strut.Strut{} || k.Foot != strut.Strut{} || k.Through) {
		t.Fatalf("%v: %v", l, k)
	}
}

// reckon fails if parts are not stacked as the chapter says, in any box.
func reckon(t *testing.T, l parts) {
	t.Helper()
	for i := range 4 {
		top, bottom := i&1 != 0, i&2 != 0
		got := strut.Put(l, top, bottom)
		if want := putOf(l, top, bottom); !same(got, want) {
			t.Fatalf("%v, top open %v, bottom open %v: %v, not %v", l, top, bottom, got, want)
		}
		follows(t, l, top, bottom, got)
	}
}

// TestPutReckoned: P19.2, P19.4, P19.5 of all short lists of some parts, and of many longer ones.
func TestPutReckoned(t *testing.T) {
	var all parts
	for _, top := range []strut.Strut{of(0), of(10), of(-4), both(20, -30)} {
		for _, bottom := range []strut.Strut{of(0), of(15), of(-7), both(20, -30)} {
			all = append(all, strut.Part{Top: top, Bottom: bottom}, strut.Part{Top: top, Bottom: bottom, H: 64}, strut.Part{Top: top, Bottom: bottom, H: 64, Through: true})
		}
	}
	reckon(t, nil)
	for _, a := range all {
		reckon(t, parts{a})
		for _, b := range all {
			reckon(t, parts{a, b})
			for _, c := range all {
				reckon(t, parts{a, b, c})
			}
		}
	}
	c := chance(5)
	for range 20000 {
		reckon(t, someParts(&c))
	}
}

// someStrut is one of a margin, of two, or of none.
func someStrut(c *chance) strut.Strut {
	return oneOf(c, of(c.below(100)-50), of(0), both(c.below(100), -c.below(100)), both(someMargin(c), someMargin(c)))
}

// someParts are parts that look like chance.
func someParts(c *chance) parts {
	l := make(parts, c.below(8))
	for i := range l {
		l[i] = strut.Part{Top: someStrut(c), Bottom: someStrut(c), H: oneOf(c, 0, 64, c.below(1000), someMargin(c)), Through: c.below(2) == 0}
	}
	return l
}

// TestPutAnything: P1: every call ends and none panics, whatever it is given, and every number is held.
func TestPutAnything(t *testing.T) {
	c := chance(7)
	for range 20000 {
		l := make(parts, c.below(6))
		one := func() strut.Strut { return both(oneOf(&c, ends()...), oneOf(&c, ends()...)) }
		for i := range l {
			l[i] = strut.Part{Top: one(), Bottom: one(), H: oneOf(&c, ends()...), Through: c.below(2) == 0}
		}
		k := strut.Put(l, c.below(2) == 0, c.below(2) == 0)
		for _, n := range append(k.At, k.Head.Up, k.Head.Down, k.Foot.Up, k.Foot.Down, k.H) {
			if n != fix.Hold(n) {
				t.Fatalf("%v: %v", l, k)
			}
		}
		if k.H < 0 || len(k.At) != len(l) {
			t.Fatalf("%v: %v", l, k)
		}
	}
	// However many.
	many := slices.Repeat(parts{solid(10, 64, 20), through(-3, 7)}, 1<<17)
	if k := strut.Put(many, false, false); len(k.At) != len(many) || k.H != (1<<17)*64+10+(1<<17-1)*17+17 {
		t.Errorf("%d, %d", len(k.At), k.H)
	}
}
