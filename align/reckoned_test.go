package align_test

import (
	"slices"
	"testing"

	"wainscot/align"
	"wainscot/api"
	"wainscot/fix"
	"wainscot/share"
)

// chance hands out numbers that look like chance, the same ones in every run.
type chance uint64

func (c *chance) below(n int) int {
	*c = *c*6364136223846793005 + 1442695040888963407
	return int(uint64(*c)>>33) % n
}

// oneOf is one of some.
func oneOf[T any](c *chance, l ...T) T {
	return l[c.below(len(l))]
}

// ends are numbers at which something may change.
func ends() []int {
	return list(lowest, lowest+1, -end-1, -end, 1-end, -64, -1, 0, 1, 64, end-1, end, end+1, 1<<32+1, highest)
}

// The chapter's words, one by one.

// countOf is how many stand there.
func countOf(n int) int {
	if n < 0 {
		return 0
	}
	if n > api.MaxNodes {
		return api.MaxNodes
	}
	return n
}

// halfOf is half of a length, the greatest whole number that is not above.
func halfOf(n int) int {
	return n >> 1
}

// spacesOf are the spaces, by a way of justify-content.
func spacesOf(free, n, way int) []int {
	free, n = fix.Hold(free), countOf(n)
	if n == 0 {
		return list(free)
	}
	if way < 0 || way > 5 || way > 2 && free < 0 || way == 3 && n == 1 {
		way = 0
	}
	between := make([]int, n-1)
	switch way {
	case 0:
		return append(append(list(0), between...), free)
	case 1:
		return append(append(list(free), between...), 0)
	case 2:
		return append(append(list(halfOf(free)), between...), free-halfOf(free))
	case 3:
		return append(append(list(0), share.Deal(free, slices.Repeat(list(1), n-1))...), 0)
	case 4:
		return share.Deal(free, append(append(list(1), slices.Repeat(list(2), n-1)...), 1))
	}
	return share.Deal(free, slices.Repeat(list(1), n+1))
}

// linesOf is what is added to lines, and the spaces, by a way of align-content.
func linesOf(free, n, way int) ([]int, []int) {
	free, n = fix.Hold(free), countOf(n)
	if way == 0 && free > 0 && n > 0 {
		return share.Deal(free, slices.Repeat(list(1), n)), make([]int, n+1)
	}
	if way < 1 {
		way = 1
	}
	return make([]int, n), spacesOf(free, n, way-1)
}

// follows fails if spaces are not as P22.5 and P22.6 say.
func follows(t *testing.T, free, n int, spaces []int) {
	t.Helper()
	all := 0
	for _, s := range spaces {
		all += s
		if free >= 0 && s < 0 || free == 0 && s != 0 {
			t.Fatalf("%d for %d: %v", free, n, spaces)
		}
	}
	if all != fix.Hold(free) || len(spaces) != countOf(n)+1 {
		t.Fatalf("%d for %d: %v", free, n, spaces)
	}
}

// reckon fails if what is free is not spread as the chapter says.
func reckon(t *testing.T, free, n, way int) {
	t.Helper()
	got, want := align.Spaces(free, n, way), spacesOf(free, n, way)
	if !slices.Equal(got, want) {
		t.Fatalf("%d for %d, way %d: %v, not %v", free, n, way, got, want)
	}
	follows(t, free, n, got)
	added, spaces := align.Lines(free, n, way)
	more, wanted := linesOf(free, n, way)
	if !slices.Equal(added, more) || !slices.Equal(spaces, wanted) {
		t.Fatalf("%d for %d, way %d: %v, %v, not %v, %v", free, n, way, added, spaces, more, wanted)
	}
	// What is added to lines is free no more.
	follows(t, fix.Hold(free)-share.Sum(added), n, spaces)
}

// TestReckoned: P22.1, P22.2, P22.5, P22.6: all small numbers, and many others.
func TestReckoned(t *testing.T) {
	for free := -20; free < 40; free++ {
		for n := -1; n < 12; n++ {
			for way := -2; way < 10; way++ {
				reckon(t, free, n, way)
			}
		}
	}
	c := chance(22)
	for range 5000 {
		n := oneOf(&c, c.below(20), c.below(20), c.below(300), c.below(1<<11), oneOf(&c, ends()...))
		reckon(t, oneOf(&c, c.below(10000), -c.below(1000), c.below(1<<31)-1<<30, oneOf(&c, ends()...)), n, oneOf(&c, c.below(8), c.below(7), oneOf(&c, ends()...)))
	}
}

// TestNothingFree: P22.6: all ways are start.
func TestNothingFree(t *testing.T) {
	for n := range 300 {
		for _, way := range append(ends(), 0, 1, 2, 3, 4, 5, 6, 7) {
			added, spaces := align.Lines(0, n, way)
			if !slices.Equal(align.Spaces(0, n, way), make([]int, n+1)) || !slices.Equal(spaces, make([]int, n+1)) || !slices.Equal(added, make([]int, n)) || align.Offset(way, n, n) != 0 {
				t.Fatalf("%d, way %d", n, way)
			}
		}
		if !slices.Equal(align.Autos(0, slices.Repeat(those(true), n)), make([]int, n)) {
			t.Fatal(n)
		}
	}
}

// TestOffsetReckoned: P22.3.
func TestOffsetReckoned(t *testing.T) {
	c := chance(3)
	number := func() int {
		return oneOf(&c, c.below(1000), c.below(1<<31)-1<<30, oneOf(&c, ends()...))
	}
	for range 20000 {
		way, room, size := oneOf(&c, c.below(5), c.below(9)-2, number()), number(), number()
		want := 0
		switch left := fix.Sub(room, size); way {
		case 2:
			want = left
		case 3:
			want = halfOf(left)
		}
		if got := align.Offset(way, room, size); got != want {
			t.Fatalf("way %d, %d in %d: %d, not %d", way, size, room, got, want)
		}
	}
}

// TestAutosReckoned: P22.4: those that are true have as if they stood alone, and all that is free, if it is above 0.
func TestAutosReckoned(t *testing.T) {
	c := chance(4)
	for range 20000 {
		autos, takers := make([]bool, c.below(40)), 0
		for i := range autos {
			if autos[i] = c.below(3) == 0; autos[i] {
				takers++
			}
		}
		free := oneOf(&c, c.below(100), -c.below(100), c.below(1<<31)-1<<30, oneOf(&c, ends()...))
		alone := share.Even(max(0, free), takers)
		got := align.Autos(free, autos)
		if len(got) != len(autos) {
			t.Fatalf("%d to %v: %v", free, autos, got)
		}
		for i, auto := range autos {
			want := 0
			if auto {
				want, alone = alone[0], alone[1:]
			}
			if got[i] != want {
				t.Fatalf("%d to %v: %v", free, autos, got)
			}
		}
	}
}
