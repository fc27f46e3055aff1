package flexline_test

import (
	"math"
	"slices"
	"testing"

	"wainscot/api"
	"wainscot/flexline"
)

const (
	lowest  = math.MinInt
	highest = math.MaxInt
	end     = api.MaxLen
)

type (
	item  = flexline.Item
	items = []flexline.Item
	edit  = func(t *item)
)

// from is an item that begins with a length, all of it its content's, without a Most and factors, with what is told done to it.
func from(base int, edits ...edit) item {
	t := item{Base: base, Most: -1, Inner: base}
	for _, e := range edits {
		e(&t)
	}
	return t
}

func least(n int) edit  { return func(t *item) { t.Least = n } }
func most(n int) edit   { return func(t *item) { t.Most = n } }
func margin(n int) edit { return func(t *item) { t.Margin = n } }
func inner(n int) edit  { return func(t *item) { t.Inner = n } }
func grow(n int) edit   { return func(t *item) { t.Grow = n } }
func shrink(n int) edit { return func(t *item) { t.Shrink = n } }

// TestExamples: the chapter's own.
func TestExamples(t *testing.T) {
	l := items{from(10, grow(1000)), from(20, grow(1000))}
	if got, _ := flexline.Resolve(l, 100); !slices.Equal(got, []int{45, 55}) {
		t.Error(got)
	}
	l[0].Most = 30
	if got, _ := flexline.Resolve(l, 100); !slices.Equal(got, []int{30, 70}) {
		t.Error(got)
	}
}

// TestWish: P21.1: the Base, at most Most, if there is one, and then at least Least.
func TestWish(t *testing.T) {
	for _, c := range []struct {
		t    item
		want int
	}{
		{item{}, 0}, {item{Base: 10}, 0}, {item{Base: -10}, 0}, {from(0), 0}, {from(10), 10}, {from(-10), 0}, {from(10, least(-5)), 10}, {from(-10, least(-5)), 0},
		{from(10, least(9)), 10}, {from(10, least(10)), 10}, {from(10, least(11)), 11}, {from(10, most(11)), 10}, {from(10, most(10)), 10}, {from(10, most(9)), 9}, {from(10, most(0)), 0},
		// A Most below 0 is none.
		{from(10, most(-1)), 10}, {from(10, most(-9)), 10}, {from(10, most(lowest)), 10}, {from(end, most(-end)), end},
		// Where both can't be, Least counts.
		{from(10, least(30), most(20)), 30}, {from(25, least(30), most(20)), 30}, {from(40, least(30), most(20)), 30}, {from(15, least(10), most(20)), 15}, {from(5, least(10), most(20)), 10}, {from(25, least(10), most(20)), 20}, {from(25, least(20), most(20)), 20},
		// Nothing else counts.
		{from(10, margin(5), inner(3), grow(1000), shrink(2000)), 10},
		// Numbers are held.
		{from(highest), end}, {from(end + 1), end}, {from(1<<32 + 1), end}, {from(lowest), 0}, {from(0, least(highest)), end}, {from(highest, most(highest)), end}, {from(highest, most(end-1)), end - 1}, {from(5, least(lowest)), 5}, {from(highest, least(highest), most(0)), end},
	} {
		if got := flexline.Wish(c.t); got != c.want {
			t.Errorf("%+v: %d, not %d", c.t, got, c.want)
		}
	}
}

// resolved is a line with what it is asked to resolve to.
type resolved struct {
	l      items
	room   int
	want   []int
	rounds int
}

// check fails if lines don't resolve as asked for.
func check(t *testing.T, l []resolved) {
	t.Helper()
	for i, c := range l {
		got, rounds := flexline.Resolve(c.l, c.room)
		if !slices.Equal(got, c.want) || rounds != c.rounds {
			t.Errorf("%d: %+v in %d: %v in %d rounds, not %v in %d", i, c.l, c.room, got, rounds, c.want, c.rounds)
		}
	}
}

// TestStill: P21.1, P21.5: frozen ahead of all rounds is who has no factor, or is past its wish already.
func TestStill(t *testing.T) {
	check(t, []resolved{
		{nil, 100, nil, 0}, {items{}, 0, nil, 0}, {items{}, lowest, nil, 0},
		// Without factors each item has its wish.
		{items{from(10), from(20)}, 100, []int{10, 20}, 0}, {items{from(10), from(20)}, 3, []int{10, 20}, 0}, {items{{}}, 100, []int{0}, 0}, {items{from(10, least(15)), from(20, most(5)), from(-7)}, 100, []int{15, 5, 0}, 0}, {items{from(10, least(15)), from(20, most(5)), from(-7)}, 3, []int{15, 5, 0}, 0},
		// The other way's factor does not count, nor one below 0.
		{items{from(10, shrink(1000))}, 100, []int{10}, 0}, {items{from(10, grow(1000))}, 3, []int{10}, 0}, {items{from(10, grow(-1000))}, 100, []int{10}, 0}, {items{from(10, shrink(-1))}, 3, []int{10}, 0}, {items{from(10, grow(lowest), shrink(lowest))}, 100, []int{10}, 0},
		// A line that grows freezes a Base above its wish, one that shrinks a Base below it.
		{items{from(50, most(20), grow(1000))}, 100, []int{20}, 0}, {items{from(10, least(20), shrink(1000))}, 15, []int{20}, 0}, {items{from(50, most(20), grow(1000)), from(10, grow(1000))}, 100, []int{20, 80}, 1}, {items{from(10, least(20), shrink(1000)), from(50, shrink(1000))}, 60, []int{20, 40}, 1}, {items{from(-10, shrink(1000)), from(50, shrink(1000))}, 30, []int{0, 30}, 1},
		// Not the other way around: a Base below its wish grows, one above it shrinks.
		{items{from(10, least(20), grow(1000))}, 100, []int{100}, 1}, {items{from(-10, grow(1000)), from(10, grow(1000))}, 100, []int{40, 60}, 1}, {items{from(50, most(20), shrink(1000))}, 10, []int{10}, 1},
		// Its wish is what counts, not its Base: with 20 the line is less than 25, with 50 it is not.
		{items{from(50, most(20), grow(1000), shrink(1000))}, 25, []int{20}, 0}, {items{from(10, least(30), grow(1000), shrink(1000))}, 25, []int{30}, 0},
	})
}

// TestGrow: P21.1, of lines that grow.
func TestGrow(t *testing.T) {
	g := grow(1000)
	check(t, []resolved{
		{items{from(10, g)}, 100, []int{100}, 1}, {items{from(0, g)}, 1, []int{1}, 1}, {items{from(10, g), from(20)}, 100, []int{80, 20}, 1}, {items{from(10, g), from(20, grow(3000))}, 100, []int{28, 72}, 1},
		// To the last 64th, as lengths are dealt.
		{items{from(0, g), from(0, g), from(0, g)}, 100, []int{34, 33, 33}, 1}, {items{from(0, g), from(5, grow(2000)), from(0, grow(4000))}, 15, []int{1, 8, 6}, 1},
		// Inner and Shrink do not count, margins take room.
		{items{from(10, g, inner(5), shrink(7000)), from(20, g, inner(500))}, 100, []int{45, 55}, 1}, {items{from(10, g, margin(30)), from(20, g, margin(-10))}, 100, []int{35, 45}, 1}, {items{from(10, g, margin(90))}, 100, []int{10}, 0}, {items{from(10, g, margin(89))}, 100, []int{11}, 1}, {items{from(10, g, margin(-90))}, 0, []int{90}, 1},
		// All wishes and margins together are less than the room, not as much.
		{items{from(40, g, shrink(1000)), from(60, g)}, 100, []int{40, 60}, 1}, {items{from(40, g), from(60, g)}, 100, []int{40, 60}, 0}, {items{from(40, g), from(60, g)}, 101, []int{41, 60}, 1},
		// One at its Most, then at its Least, each freezes alone; what is left goes round.
		{items{from(0, g, most(20)), from(0, g), from(0, g)}, 100, []int{20, 40, 40}, 2}, {items{from(0, g, most(30)), from(0, g, most(36)), from(0, g)}, 105, []int{30, 36, 39}, 3}, {items{from(0, g, most(20)), from(0, g, most(30))}, 100, []int{20, 30}, 1}, {items{from(0, g, least(60)), from(0, g)}, 100, []int{60, 40}, 2}, {items{from(-50, g), from(-20, g), from(10, g)}, 90, []int{0, 30, 60}, 1}, {items{from(-50, g), from(-20, g), from(10, g)}, 60, []int{0, 15, 45}, 2}, {items{from(0, g, most(0)), from(0, g)}, 10, []int{0, 10}, 2}, {items{from(0, g, least(60), most(20)), from(0, g)}, 100, []int{60, 40}, 2},
		// Breaches of both kinds: by their sum those that are too short first, those that are too long, or all.
		{items{from(0, g, least(50)), from(0, g, most(20)), from(0, g)}, 90, []int{50, 20, 20}, 2}, {items{from(0, g, least(50)), from(0, g, most(15)), from(0, g)}, 90, []int{50, 15, 25}, 3}, {items{from(0, g, least(35)), from(0, g, most(10)), from(0, g)}, 90, []int{40, 10, 40}, 2}, {items{from(0, g, least(40)), from(0, g, most(20)), from(0, g)}, 90, []int{40, 20, 30}, 1},
	})
}

// TestShrink: P21.1, of lines that shrink.
func TestShrink(t *testing.T) {
	s := shrink(1000)
	check(t, []resolved{
		// Weights are Inner by Shrink.
		{items{from(100, s), from(200, s)}, 150, []int{50, 100}, 1}, {items{from(100, s, inner(50)), from(200, s, inner(50))}, 200, []int{50, 150}, 1}, {items{from(100, s), from(100, shrink(3000))}, 120, []int{80, 40}, 1}, {items{from(100, s), from(100)}, 150, []int{50, 100}, 1}, {items{from(100, s, inner(-40)), from(100, s)}, 150, []int{100, 50}, 1}, {items{from(10, shrink(1500), inner(1)), from(10, s, inner(1))}, 17, []int{8, 9}, 1}, {items{from(10, shrink(1999), inner(1)), from(10, shrink(1000), inner(2))}, 11, []int{7, 4}, 1},
		// Without a weight nobody gives way.
		{items{from(100, s, inner(0)), from(100, s, inner(0))}, 150, []int{100, 100}, 1}, {items{from(100, shrink(999), inner(1)), from(100, shrink(999), inner(1))}, 150, []int{100, 100}, 1},
		// Most of it first, where it does not come out even; Grow does not count.
		{items{from(10, s), from(10, s), from(10, s)}, 20, []int{6, 7, 7}, 1}, {items{from(100, s, grow(7000)), from(100, s)}, 150, []int{75, 75}, 1}, {items{from(100, s, margin(30)), from(100, s, margin(-10))}, 150, []int{65, 65}, 1},
		// Nothing is free.
		{items{from(40, s), from(60, s)}, 100, []int{40, 60}, 1}, {items{from(0, s)}, 0, []int{0}, 1}, {items{from(0, s)}, -5, []int{0}, 1},
		// No item is shorter than its Least, and none than 0.
		{items{from(100, s, least(80)), from(100, s)}, 150, []int{80, 70}, 2}, {items{from(100, s, least(80)), from(100, s, least(70))}, 100, []int{80, 70}, 1}, {items{from(100, s, least(90)), from(100, s, least(60)), from(100, s)}, 190, []int{90, 60, 40}, 3}, {items{from(10, s, inner(100)), from(100, s)}, 50, []int{0, 50}, 2}, {items{from(100, s)}, -50, []int{0}, 1}, {items{from(100, s), from(50, s)}, lowest, []int{0, 0}, 1},
		// A Base above its Most begins with the Base. Of breaches of both kinds the sum counts.
		{items{from(100, s, most(80)), from(100, s)}, 180, []int{80, 100}, 2}, {items{from(100, s, most(80)), from(100, s)}, 120, []int{60, 60}, 1}, {items{from(100, s, most(50)), from(100, s, least(75)), from(100, s)}, 195, []int{50, 75, 70}, 3}, {items{from(100, s, most(50)), from(100, s, least(88)), from(100, s)}, 205, []int{50, 88, 67}, 3}, {items{from(100, s, most(50)), from(100, s, least(70)), from(100, s)}, 180, []int{50, 70, 60}, 1},
	})
}

// TestLessThanOne: P21.1, where the factors make less than 1000.
func TestLessThanOne(t *testing.T) {
	check(t, []resolved{
		{items{from(10, grow(500))}, 110, []int{60}, 1}, {items{from(10, grow(1))}, 110, []int{10}, 1}, {items{from(10, grow(999))}, 110, []int{109}, 1}, {items{from(10, grow(250)), from(10, grow(250))}, 120, []int{35, 35}, 1}, {items{from(10, grow(250)), from(10, grow(500))}, 120, []int{35, 60}, 1}, {items{from(0, grow(999)), from(0, grow(1))}, 1000, []int{999, 1}, 1}, {items{from(0, grow(998)), from(0, grow(1))}, 1000, []int{998, 1}, 1},
		{items{from(100, shrink(500))}, 0, []int{50}, 1}, {items{from(100, shrink(250)), from(100, shrink(250))}, 100, []int{75, 75}, 1}, {items{from(100, shrink(250)), from(200, shrink(500))}, 200, []int{85, 140}, 1},
		// The part that is remembered is a greatest whole number that is not above: of what is missing, more.
		{items{from(10, grow(500))}, 17, []int{13}, 1}, {items{from(10, shrink(500))}, 3, []int{6}, 1}, {items{from(10, shrink(1), inner(5000))}, 9, []int{9}, 1}, {items{from(10, shrink(1), inner(5000))}, 8, []int{9}, 1},
		// Frozen ones are not among the factors, but what was free ahead of all rounds is remembered.
		{items{from(0, grow(600), most(20)), from(0, grow(600))}, 100, []int{20, 60}, 2}, {items{from(0, grow(600), most(20)), from(0, grow(900))}, 100, []int{20, 80}, 2}, {items{from(0, grow(600), least(50)), from(0, grow(900))}, 100, []int{50, 50}, 2}, {items{from(0, grow(600), least(50)), from(0, grow(400))}, 100, []int{60, 40}, 1}, {items{from(0, grow(500), least(70)), from(0, grow(400)), from(0, grow(100))}, 100, []int{70, 24, 6}, 2}, {items{from(20), from(0, grow(500)), from(50, most(20), grow(900))}, 100, []int{20, 30, 20}, 1},
		{items{from(100, shrink(600), least(80)), from(100, shrink(600))}, 100, []int{80, 40}, 2}, {items{from(100, shrink(600), least(20)), from(100, shrink(600))}, 100, []int{50, 50}, 1}, {items{from(100, shrink(300), most(20)), from(100, shrink(300), least(90)), from(100, shrink(300))}, 170, []int{20, 90, 61}, 3},
	})
}

// TestRounds: P21.3: no more rounds than items, though each one may freeze a single item.
func TestRounds(t *testing.T) {
	g := grow(1000)
	check(t, []resolved{
		{items{from(0, g, most(10)), from(0, g, most(20)), from(0, g, most(28)), from(0, g)}, 84, []int{10, 20, 27, 27}, 2},
		{items{from(0, g, most(10)), from(0, g, most(28)), from(0, g, most(30)), from(0, g)}, 100, []int{10, 28, 30, 32}, 4},
	})
	// Built from the last item on: in each round the even share is above the Most of just one item, by so much, and is the next one's.
	const longest, few = 1 << 26, 10
	l, want, room, above := items{from(0, g)}, []int{longest}, longest, 1
	for n := 2; n <= few; n++ {
		last := want[0] - above
		if n > 2 {
			above *= n
		}
		l, want, room = slices.Insert(l, 0, from(0, g, most(last))), slices.Insert(want, 0, last), room+last
		check(t, []resolved{{l, room, want, n}})
	}
}

// TestHeld: P21.1: what is given is held, what is summed up is not.
func TestHeld(t *testing.T) {
	g, s := grow(1000), shrink(1000)
	check(t, []resolved{
		{items{from(0, g)}, highest, []int{end}, 1}, {items{from(0, g), from(0, g)}, end + 7, []int{end / 2, end / 2}, 1}, {items{from(highest, s)}, lowest, []int{0}, 1}, {items{from(lowest, g), from(0, g)}, 100, []int{0, 100}, 2}, {items{from(10, grow(highest)), from(10, grow(end))}, 100, []int{50, 50}, 1}, {items{from(10, shrink(highest)), from(10, shrink(end))}, 10, []int{5, 5}, 1}, {items{from(20, s, inner(highest)), from(20, s, inner(end))}, 20, []int{10, 10}, 1}, {items{from(0, g, least(highest)), from(0, g)}, end, []int{end, 0}, 0}, {items{from(0, g, most(highest)), from(0, g)}, end, []int{end / 2, end / 2}, 1}, {items{from(0, g, most(lowest))}, 100, []int{100}, 1},
		{items{from(10, g, margin(highest)), from(10, g, margin(-end))}, 100, []int{50, 50}, 1}, {items{from(10, s, margin(lowest)), from(10, s, margin(end))}, 10, []int{5, 5}, 1},
		// Wishes and margins together may be beyond an end on the way.
		{items{from(end, g, s, margin(end)), from(5, g, s, margin(-end))}, 100, []int{100, 0}, 1}, {items{from(0, g, margin(-end)), from(0, g, margin(-end)), from(0, g, s, margin(end)), from(200, s, margin(end))}, 100, []int{0, 0, 0, 100}, 1},
		// What is dealt is held, and so is what was remembered, where it is parted.
		{items{from(end, s), from(end, s), from(end, s), from(end, s)}, 0, []int{end - end/4, end - end/4, end - end/4, end - end/4}, 1}, {items{from(0, g, margin(-end)), from(0, g, margin(-end))}, end, []int{end / 2, end / 2}, 1}, {items{from(0, grow(500), margin(-end)), from(0, margin(-end))}, end, []int{end / 2, 0}, 1}, {items{from(end, shrink(250)), from(end, shrink(250)), from(end), from(end)}, 0, []int{end - end/4, end - end/4, end, end}, 1},
		// A length is held ahead of being clamped: that adds nothing to a breach.
		{items{from(end, g, margin(-end))}, 100, []int{end}, 1}, {items{from(end, g, most(end), margin(-end)), from(0, g)}, 100, []int{end, 50}, 1}, {items{from(end, g, most(end-10), margin(-end)), from(0, g)}, 100, []int{end - 10, 110}, 1}, {items{from(end-10, g, most(end-5), margin(-end)), from(0, g)}, 100, []int{end - 5, 105}, 2},
		// Factors and breaches are summed up beyond an end.
		{items{from(0, grow(highest), margin(-100)), from(0, grow(highest)), from(0, grow(highest))}, 200, []int{100, 100, 100}, 1}, {items{from(end, s, most(0)), from(end, s, most(0)), from(end, s, most(0)), from(end, s, least(end)), from(end, s, least(end))}, 2 * end, []int{0, 0, 0, end, end}, 2}, {items{from(end, s, inner(0), most(0)), from(end, s, inner(0), most(0)), from(end, s, least(end)), from(end, s, least(end))}, 0, []int{0, 0, end, end}, 2},
	})
}

// TestUnchanged: what is handed in stays as it is, and what is answered is new.
func TestUnchanged(t *testing.T) {
	l := items{from(highest, grow(1000), most(70), inner(-5)), from(0, grow(700), least(-7)), from(10)}
	kept := slices.Clone(l)
	a, _ := flexline.Resolve(l, 300)
	b, _ := flexline.Resolve(l, 300)
	want := slices.Clone(a)
	a[1] = 7
	if !slices.Equal(l, kept) || !slices.Equal(b, want) {
		t.Errorf("%v, %v, %v", l, a, b)
	}
	clear(l)
	if !slices.Equal(b, want) {
		t.Errorf("%v", b)
	}
}
