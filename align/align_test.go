package align_test

import (
	"math"
	"slices"
	"testing"

	"wainscot/align"
	"wainscot/api"
)

const (
	lowest  = math.MinInt
	highest = math.MaxInt
	end     = api.MaxLen
	many    = api.MaxNodes
)

// list is numbers, and those is numbers that are true or not.
func list(l ...int) []int    { return l }
func those(l ...bool) []bool { return l }

// one is n noughts, but for one number at a place.
func one(n, at, number int) []int {
	l := make([]int, n)
	l[at] = number
	return l
}

// nobody is no way.
func nobody() []int {
	return list(lowest, -end, -2, -1, 7, 8, end, 1<<32+3, highest)
}

// spaced is what is free for so many, and the spaces that are asked for of justify-content's six ways.
type spaced struct {
	free, n                                     int
	start, end, center, between, around, evenly []int
}

// spacings are of what is not below 0 ahead of n, and where it is.
func spacings() []spaced {
	return []spaced{
		{10, 3, list(0, 0, 0, 10), list(10, 0, 0, 0), list(5, 0, 0, 5), list(0, 5, 5, 0), list(2, 3, 3, 2), list(3, 3, 2, 2)},
		{11, 3, list(0, 0, 0, 11), list(11, 0, 0, 0), list(5, 0, 0, 6), list(0, 6, 5, 0), list(2, 4, 3, 2), list(3, 3, 3, 2)},
		{1, 2, list(0, 0, 1), list(1, 0, 0), list(0, 0, 1), list(0, 1, 0), list(0, 1, 0), list(1, 0, 0)},
		{2, 3, list(0, 0, 0, 2), list(2, 0, 0, 0), list(1, 0, 0, 1), list(0, 1, 1, 0), list(0, 1, 1, 0), list(1, 1, 0, 0)},
		{12, 2, list(0, 0, 12), list(12, 0, 0), list(6, 0, 6), list(0, 12, 0), list(3, 6, 3), list(4, 4, 4)},
		{7, 4, list(0, 0, 0, 0, 7), list(7, 0, 0, 0, 0), list(3, 0, 0, 0, 4), list(0, 3, 2, 2, 0), list(1, 2, 2, 1, 1), list(2, 2, 1, 1, 1)},
		// Of one there is nothing between.
		{5, 1, list(0, 5), list(5, 0), list(2, 3), list(0, 5), list(3, 2), list(3, 2)},
		{1, 1, list(0, 1), list(1, 0), list(0, 1), list(0, 1), list(1, 0), list(1, 0)},
		// Of none there is one space.
		{5, 0, list(5), list(5), list(5), list(5), list(5), list(5)},
		{-5, 0, list(-5), list(-5), list(-5), list(-5), list(-5), list(-5)},
		{5, -1, list(5), list(5), list(5), list(5), list(5), list(5)},
		{5, lowest, list(5), list(5), list(5), list(5), list(5), list(5)},
		// Below 0 what is dealt is start; half of it is the greatest whole number that is not above.
		{-10, 3, list(0, 0, 0, -10), list(-10, 0, 0, 0), list(-5, 0, 0, -5), list(0, 0, 0, -10), list(0, 0, 0, -10), list(0, 0, 0, -10)},
		{-11, 2, list(0, 0, -11), list(-11, 0, 0), list(-6, 0, -5), list(0, 0, -11), list(0, 0, -11), list(0, 0, -11)},
		{-1, 1, list(0, -1), list(-1, 0), list(-1, 0), list(0, -1), list(0, -1), list(0, -1)},
		{0, 2, list(0, 0, 0), list(0, 0, 0), list(0, 0, 0), list(0, 0, 0), list(0, 0, 0), list(0, 0, 0)},
		{0, 0, list(0), list(0), list(0), list(0), list(0), list(0)},
		// What is free is held.
		{highest, 1, list(0, end), list(end, 0), list(end/2, end/2), list(0, end), list(end/2, end/2), list(end/2, end/2)},
		{1<<32 + 1, 2, list(0, 0, end), list(end, 0, 0), list(end/2, 0, end/2), list(0, end, 0), list(end/4, end/2, end/4), list(end/3+1, end/3, end/3)},
		{lowest, 1, list(0, -end), list(-end, 0), list(-end/2, -end/2), list(0, -end), list(0, -end), list(0, -end)},
	}
}

// TestSpaces: P22.1.
func TestSpaces(t *testing.T) {
	for _, c := range spacings() {
		for way, want := range [][]int{c.start, c.end, c.center, c.between, c.around, c.evenly} {
			if got := align.Spaces(c.free, c.n, way); !slices.Equal(got, want) {
				t.Errorf("%d for %d, way %d: %v, not %v", c.free, c.n, way, got, want)
			}
		}
		for _, way := range append(nobody(), 6) {
			if got := align.Spaces(c.free, c.n, way); !slices.Equal(got, c.start) {
				t.Errorf("%d for %d, way %d: %v, not %v", c.free, c.n, way, got, c.start)
			}
		}
	}
}

// TestSpacesOfMany: P22.1: all spaces of up to MaxNodes are dealt to.
func TestSpacesOfMany(t *testing.T) {
	for _, n := range list(255, 256, 257, 258, many-1, many, many+1, end, highest) {
		count := min(n, many)
		around := slices.Repeat(list(6), count+1)
		around[0], around[count] = 3, 3
		between := slices.Repeat(list(7), count+1)
		between[0], between[count] = 0, 0
		for _, c := range []struct {
			free, way int
			want      []int
		}{
			{9, 0, one(count+1, count, 9)}, {9, 1, one(count+1, 0, 9)}, {7 * (count - 1), 3, between}, {6 * count, 4, around}, {5 * (count + 1), 5, slices.Repeat(list(5), count+1)}, {-9, 5, one(count+1, count, -9)}, {1, 5, one(count+1, 0, 1)},
		} {
			if got := align.Spaces(c.free, n, c.way); !slices.Equal(got, c.want) {
				t.Errorf("%d for %d, way %d: %d spaces: %v", c.free, n, c.way, len(got), got)
			}
		}
	}
}

// TestLinesStretched: P22.2, of stretch.
func TestLinesStretched(t *testing.T) {
	for _, c := range []struct {
		free, n       int
		added, spaces []int
	}{
		{10, 3, list(4, 3, 3), list(0, 0, 0, 0)}, {2, 3, list(1, 1, 0), list(0, 0, 0, 0)}, {10, 1, list(10), list(0, 0)}, {1, 1, list(1), list(0, 0)},
		// What is not above 0 is the last space.
		{0, 2, list(0, 0), list(0, 0, 0)}, {-1, 2, list(0, 0), list(0, 0, -1)}, {-10, 3, list(0, 0, 0), list(0, 0, 0, -10)}, {-10, 1, list(0), list(0, -10)},
		// Of no line the one space is what is free.
		{10, 0, nil, list(10)}, {-10, 0, nil, list(-10)}, {0, 0, nil, list(0)}, {10, -1, nil, list(10)}, {10, lowest, nil, list(10)},
		{highest, 2, list(end/2, end/2), list(0, 0, 0)}, {lowest, 2, list(0, 0), list(0, 0, -end)}, {highest, 0, nil, list(end)},
		// All lines are dealt to, up to MaxNodes.
		{600, 300, slices.Repeat(list(2), 300), make([]int, 301)}, {5 * many, many, slices.Repeat(list(5), many), make([]int, many+1)}, {5 * many, many + 1, slices.Repeat(list(5), many), make([]int, many+1)}, {1, highest, one(many, 0, 1), make([]int, many+1)}, {-1, highest, make([]int, many), one(many+1, many, -1)},
	} {
		added, spaces := align.Lines(c.free, c.n, 0)
		if !slices.Equal(added, c.added) || !slices.Equal(spaces, c.spaces) {
			t.Errorf("%d for %d: %v, %v, not %v, %v", c.free, c.n, added, spaces, c.added, c.spaces)
		}
	}
}

// TestLines: P22.2, of the other ways: those of justify-content, each one more.
func TestLines(t *testing.T) {
	for _, c := range spacings() {
		check := func(way int, want []int) {
			t.Helper()
			added, spaces := align.Lines(c.free, c.n, way)
			if !slices.Equal(added, make([]int, max(0, c.n))) || !slices.Equal(spaces, want) {
				t.Errorf("%d for %d, way %d: %v, %v, not %v", c.free, c.n, way, added, spaces, want)
			}
		}
		for i, want := range [][]int{c.start, c.end, c.center, c.between, c.around, c.evenly} {
			check(i+1, want)
		}
		for _, way := range nobody() {
			check(way, c.start)
		}
	}
	added, spaces := align.Lines(many+1, many+1, 6)
	if !slices.Equal(added, make([]int, many)) || !slices.Equal(spaces, slices.Repeat(list(1), many+1)) {
		t.Errorf("%v, %v", added, spaces)
	}
}

// TestOffset: P22.3.
func TestOffset(t *testing.T) {
	for _, c := range []struct{ room, size, end, center int }{
		{100, 30, 70, 35}, {100, 31, 69, 34}, {100, 100, 0, 0}, {100, 99, 1, 0}, {0, 0, 0, 0}, {0, 5, -5, -3}, {100, 130, -30, -15}, {100, 101, -1, -1}, {-10, 5, -15, -8}, {10, -5, 15, 7}, {-10, -30, 20, 10},
		// Numbers are held, and so is their difference.
		{highest, 0, end, end / 2}, {highest, end, 0, 0}, {lowest, 0, -end, -end / 2}, {highest, lowest, end, end / 2}, {lowest, highest, -end, -end / 2}, {0, lowest, end, end / 2}, {end, -1, end, end / 2}, {-end, 1, -end, -end / 2}, {1<<32 + 1, 1, end - 1, end/2 - 1},
	} {
		for way, want := range list(0, 0, c.end, c.center, 0, 0, 0) {
			if got := align.Offset(way, c.room, c.size); got != want {
				t.Errorf("way %d, %d in %d: %d, not %d", way, c.size, c.room, got, want)
			}
		}
		for _, way := range nobody() {
			if got := align.Offset(way, c.room, c.size); got != 0 {
				t.Errorf("way %d, %d in %d: %d, not 0", way, c.size, c.room, got)
			}
		}
	}
}

// TestAutos: P22.4.
func TestAutos(t *testing.T) {
	for _, c := range []struct {
		free  int
		autos []bool
		want  []int
	}{
		{10, nil, nil}, {10, those(), nil}, {-10, nil, nil}, {10, those(true), list(10)}, {10, those(false), list(0)}, {10, those(true, true, true), list(4, 3, 3)}, {10, those(false, true, false, true), list(0, 5, 0, 5)}, {11, those(true, false, true), list(6, 0, 5)}, {10, those(false, false), list(0, 0)},
		{1, those(false, true, true, true), list(0, 1, 0, 0)}, {2, those(false, true, false, true, true), list(0, 1, 0, 1, 0)},
		// Nothing is given of what is not above 0.
		{0, those(true, false), list(0, 0)}, {-1, those(true, false), list(0, 0)}, {-10, those(true, true), list(0, 0)}, {lowest, those(true), list(0)},
		{highest, those(true, true), list(end/2, end/2)}, {end + 1, those(false, true), list(0, end)},
		{1200, slices.Repeat(those(true, false), 600), slices.Repeat(list(2, 0), 600)}, {3000, slices.Repeat(those(true), 3000), slices.Repeat(list(1), 3000)}, {7, slices.Repeat(those(false), 3000), make([]int, 3000)},
	} {
		if got := align.Autos(c.free, c.autos); !slices.Equal(got, c.want) {
			t.Errorf("%d to %v: %v, not %v", c.free, c.autos, got, c.want)
		}
	}
}

// TestUnchanged: what is handed in stays as it is, and what is answered is new.
func TestUnchanged(t *testing.T) {
	autos := those(true, false, true)
	a, b := align.Autos(10, autos), align.Autos(10, autos)
	clear(a)
	if !slices.Equal(autos, those(true, false, true)) || !slices.Equal(b, list(5, 0, 5)) {
		t.Errorf("%v, %v", autos, b)
	}
	for way := -1; way < 8; way++ {
		for _, free := range list(-6, 0, 6) {
			c, d := align.Spaces(free, 2, way), align.Spaces(free, 2, way)
			added, spaces := align.Lines(free, 2, way)
			want, more, spread := slices.Clone(d), slices.Clone(added), slices.Clone(spaces)
			for i := range c {
				c[i] = 7
			}
			if !slices.Equal(d, want) {
				t.Errorf("%d, way %d: %v, not %v", free, way, d, want)
			}
			added[0], added[1] = 8, 9
			if !slices.Equal(spaces, spread) {
				t.Errorf("%d, way %d: %v, not %v", free, way, spaces, spread)
			}
			spaces[0] = 7
			if e, f := align.Lines(free, 2, way); !slices.Equal(e, more) || !slices.Equal(f, spread) {
				t.Errorf("%d, way %d: %v, %v, not %v, %v", free, way, e, f, more, spread)
			}
		}
	}
}
