package flexline_test

import (
	"slices"
	"testing"

	"wainscot/fix"
	"wainscot/flexline"
	"wainscot/share"
)

// chance hands out numbers that look like chance, the same ones in every run.
type chance uint64

func (c *chance) below(n int) int {
	*c = *c*6364136223846793005 + 1442695040888963407
	return int(uint64(*c)>>33) % n
}

// oneOf is one of some.
func oneOf[T any](c *chance, l ...T) T {
	return l[c.below(len(l))]
}

// ends are numbers at which something may change.
func ends() []int {
	return []int{lowest, lowest + 1, -end - 1, -end, 1 - end, -64, -1, 0, 1, 64, 999, 1000, end - 1, end, end + 1, 1<<32 + 1, highest}
}

// The chapter's words, one by one.

// heldOf is an item whose numbers are held.
func heldOf(t item) item {
	for _, n := range []*int{&t.Base, &t.Least, &t.Most, &t.Margin, &t.Inner, &t.Grow, &t.Shrink} {
		*n = fix.Hold(*n)
	}
	for _, n := range []*int{&t.Least, &t.Inner, &t.Grow, &t.Shrink} {
		if *n < 0 {
			*n = 0
		}
	}
	return t
}

// clampedOf is a length, clamped.
func clampedOf(t item, n int) int {
	if t.Most >= 0 && n > t.Most {
		n = t.Most
	}
	if n < t.Least {
		n = t.Least
	}
	return n
}

// sumOf is the sum of what is told of all items, of those that are picked; it is not held.
func sumOf(l items, picked func(i int) bool, told func(t item) int) int {
	all := 0
	for i, t := range l {
		if picked(i) {
			all += told(t)
		}
	}
	return all
}

// growsIn tells whether a line of held items grows.
func growsIn(l items, room int) bool {
	return sumOf(l, every, func(t item) int { return clampedOf(t, t.Base) + t.Margin }) < fix.Hold(room)
}

func every(int) bool { return true }

// factorOf and weightOf are an item's.
func factorOf(t item, grows bool) int {
	if grows {
		return t.Grow
	}
	return t.Shrink
}

func weightOf(t item, grows bool) int {
	if grows {
		return t.Grow
	}
	return fix.Part(t.Inner, t.Shrink, 1000)
}

func unsigned(n int) int {
	if n < 0 {
		return -n
	}
	return n
}

// resolvedOf is what a line resolves to.
func resolvedOf(given items, room int) ([]int, int) {
	var l items
	for _, t := range given {
		l = append(l, heldOf(t))
	}
	grows := growsIn(l, room)
	lengths, frozen := make([]int, len(l)), make([]bool, len(l))
	for i, t := range l {
		wish := clampedOf(t, t.Base)
		if factorOf(t, grows) == 0 || grows && t.Base > wish || !grows && t.Base < wish {
			lengths[i], frozen[i] = wish, true
		}
	}
	is, not := func(i int) bool { return frozen[i] }, func(i int) bool { return !frozen[i] }
	free := func() int {
		n := fix.Hold(room) - sumOf(l, every, func(t item) int { return t.Margin })
		for i := range l {
			if is(i) {
				n -= lengths[i]
			}
		}
		return n - sumOf(l, not, func(t item) int { return t.Base })
	}
	remembered, rounds := free(), 0
	for slices.Contains(frozen, false) {
		rounds++
		now := free()
		factors := sumOf(l, not, func(t item) int { return factorOf(t, grows) })
		if factors < 1000 && unsigned(fix.Part(remembered, factors, 1000)) < unsigned(now) {
			now = fix.Part(remembered, factors, 1000)
		}
		roundOf(l, lengths, frozen, now, func(t item) int { return weightOf(t, grows) })
	}
	return lengths, rounds
}

// roundOf is one round, in which so much is dealt.
func roundOf(l items, lengths []int, frozen []bool, dealt int, weight func(t item) int) {
	weights := make([]int, len(l))
	for i, t := range l {
		// Who weighs nothing gets nothing.
		if !frozen[i] {
			weights[i] = weight(t)
		}
	}
	breaches, all := make([]int, len(l)), 0
	for i, part := range share.Deal(dealt, weights) {
		if frozen[i] {
			continue
		}
		would := fix.Hold(l[i].Base + part)
		lengths[i] = clampedOf(l[i], would)
		breaches[i] = lengths[i] - would
		all += breaches[i]
	}
	for i, b := range breaches {
		frozen[i] = frozen[i] || all == 0 || all > 0 && b > 0 || all < 0 && b < 0
	}
}

// follows fails if lengths are not as P21.2 to P21.5 say.
func follows(t *testing.T, given items, room int, lengths []int, rounds int) {
	t.Helper()
	if rounds > len(given) {
		t.Fatalf("%+v in %d: %d rounds", given, room, rounds)
	}
	l, factors, whole := make(items, len(given)), 0, fix.Hold(room)
	plain := true
	for i, x := range given {
		l[i] = heldOf(x)
		if x.Base = lengths[i]; flexline.Wish(x) != lengths[i] {
			t.Fatalf("%+v in %d: %v is not clamped", given, room, lengths)
		}
		plain = plain && l[i].Most < 0 && l[i].Least == 0 && l[i].Base >= 0
		whole -= l[i].Margin + lengths[i]
	}
	grows := growsIn(l, room)
	for i := range l {
		factors += factorOf(l[i], grows)
	}
	if factors == 0 {
		for i := range l {
			if lengths[i] != flexline.Wish(given[i]) {
				t.Fatalf("%+v in %d: %v without factors", given, room, lengths)
			}
		}
	}
	free := fix.Hold(room) - sumOf(l, every, func(t item) int { return t.Margin + t.Base })
	// More than a length can't be dealt.
	if plain && grows && factors >= 1000 && free <= end && whole != 0 && !slices.Contains(lengths, end) {
		t.Fatalf("%+v in %d: %v leaves %d", given, room, lengths, whole)
	}
}

// reckon fails if a line does not resolve as the chapter says.
func reckon(t *testing.T, l items, room int) {
	t.Helper()
	got, rounds := flexline.Resolve(l, room)
	if want, n := resolvedOf(l, room); !slices.Equal(got, want) || rounds != n {
		t.Fatalf("%+v in %d: %v in %d rounds, not %v in %d", l, room, got, rounds, want, n)
	}
	follows(t, l, room, got, rounds)
}

// someItems are items of many kinds.
func someItems() items {
	var l items
	for _, base := range []int{-5, 0, 20, 41} {
		for _, between := range [][2]int{{0, -1}, {0, 30}, {25, -1}, {25, 10}} {
			for _, factors := range [][2]int{{0, 0}, {1000, 1000}, {300, 700}, {2500, 1}} {
				l = append(l, from(base, least(between[0]), most(between[1]), grow(factors[0]), shrink(factors[1])))
			}
		}
	}
	return l
}

// TestReckonedPairs: P21.1 to P21.5, of all pairs of some items.
func TestReckonedPairs(t *testing.T) {
	l := someItems()
	for i := range l {
		for j := range l {
			for _, room := range []int{-10, 0, 24, 40, 41, 50, 61, 80, 200} {
				reckon(t, items{l[i], l[j]}, room)
			}
		}
	}
}

// someItem is one that looks like chance: with much that is usual, or with anything.
func someItem(c *chance, wild bool) item {
	number := func() int {
		if wild {
			return oneOf(c, oneOf(c, ends()...), c.below(1<<31)-1<<30, c.below(1000)-100)
		}
		return c.below(120) - 20
	}
	x := item{Base: number(), Least: number(), Most: number(), Margin: oneOf(c, 0, number()), Inner: number()}
	if c.below(2) == 0 {
		x.Least = 0
	}
	if c.below(2) == 0 {
		x.Most = -1
	}
	if c.below(4) > 0 {
		x.Inner = max(0, x.Base)
	}
	factor := func() int { return oneOf(c, 0, 1000, 1000*c.below(4), c.below(1500), c.below(400), number()) }
	x.Grow, x.Shrink = factor(), factor()
	return x
}

// TestReckoned: P21.1 to P21.5, of many lines.
func TestReckoned(t *testing.T) {
	c := chance(21)
	for i := range 60000 {
		wild := i%3 == 0
		l := make(items, c.below(9))
		for j := range l {
			l[j] = someItem(&c, wild)
		}
		room := c.below(600) - 100
		if wild {
			room = oneOf(&c, room, oneOf(&c, ends()...), c.below(1<<31)-1<<30)
		}
		reckon(t, l, room)
	}
}

// TestFills: P21.4: to the last 64th.
func TestFills(t *testing.T) {
	c := chance(4)
	for range 20000 {
		l, whole := make(items, 1+c.below(12)), 0
		for i := range l {
			l[i] = from(c.below(1000), grow(c.below(3000)), margin(c.below(100)-50), inner(c.below(1000)-500), shrink(c.below(3000)), least(-c.below(2)), most(-1-c.below(9)))
			whole += l[i].Base + l[i].Margin
		}
		l[c.below(len(l))].Grow += 1000
		room := whole + 1 + c.below(oneOf(&c, 5, 1000, 1<<28))
		got, rounds := flexline.Resolve(l, room)
		left := room
		for i, n := range got {
			left -= n + l[i].Margin
		}
		if left != 0 || rounds != 1 {
			t.Fatalf("%+v in %d: %v in %d rounds leaves %d", l, room, got, rounds, left)
		}
	}
}

// TestAlike: P21.5: of items that are alike the one that grows more is not shorter.
func TestAlike(t *testing.T) {
	c := chance(5)
	grown, longer := 0, 0
	for range 40000 {
		l := make(items, 2+c.below(6))
		for i := range l {
			l[i] = someItem(&c, false)
		}
		i := c.below(len(l))
		j := (i + 1 + c.below(len(l)-1)) % len(l)
		l[i].Grow = max(0, l[i].Grow)
		l[j] = l[i]
		l[j].Grow += 1 + c.below(2000)
		room := c.below(1200)
		held := make(items, len(l))
		for i := range l {
			held[i] = heldOf(l[i])
		}
		if !growsIn(held, room) {
			continue
		}
		grown++
		got, _ := flexline.Resolve(l, room)
		if got[j] < got[i] {
			t.Fatalf("%+v in %d: %v: %d is shorter than %d", l, room, got, j, i)
		}
		if got[j] > got[i] {
			longer++
		}
	}
	if grown < 10000 || longer < 3000 {
		t.Errorf("%d lines grew, in %d one was longer", grown, longer)
	}
}

// TestMany: P1: a line may be far longer than any that is laid out.
func TestMany(t *testing.T) {
	l := slices.Repeat(items{from(1, grow(1000)), from(3, grow(3000)), from(2)}, 1<<14)
	got, rounds := flexline.Resolve(l, 10<<14)
	if want := slices.Repeat([]int{2, 6, 2}, 1<<14); !slices.Equal(got, want) || rounds != 1 {
		t.Errorf("%d lengths in %d rounds", len(got), rounds)
	}
	l = nil
	for i := range 300 {
		l = append(l, from(0, grow(1000), most(i)))
	}
	reckon(t, l, 300*150)
}
