package strut_test

import (
	"math"
	"reflect"
	"slices"
	"testing"

	"wainscot/api"
	"wainscot/fix"
	"wainscot/strut"
)

const (
	least = math.MinInt
	most  = math.MaxInt
)

// chance hands out numbers that look like chance, the same ones in every run.
type chance uint64

func (c *chance) below(n int) int {
	*c = *c*6364136223846793005 + 1442695040888963407
	return int(uint64(*c)>>33) % n
}

// oneOf is one of some.
func oneOf[T any](c *chance, l ...T) T {
	return l[c.below(len(l))]
}

// ends are numbers at which something may change.
func ends() []int {
	return []int{least, least + 1, -api.MaxLen - 1, -api.MaxLen, 1 - api.MaxLen, -64, -1, 0, 1, 64, api.MaxLen - 1, api.MaxLen, api.MaxLen + 1, 1<<32 + 1, most}
}

// someMargin is one that looks like chance.
func someMargin(c *chance) int {
	return oneOf(c, 0, 0, c.below(200), -c.below(200), c.below(1<<31)-1<<30, oneOf(c, ends()...))
}

// of is the strut of a margin that is held.
func of(margin int) strut.Strut {
	if margin < 0 {
		return strut.Strut{Down: margin}
	}
	return strut.Strut{Up: margin}
}

// both is the strut of a margin that is not below 0, and one that is.
func both(up, down int) strut.Strut {
	return strut.Strut{Up: up, Down: down}
}

// TestExamples: the chapter's own.
func TestExamples(t *testing.T) {
	for _, c := range []struct{ a, b, want int }{{10, 20, 20}, {10, -4, 6}, {-3, -4, -4}} {
		if got := strut.Worth(strut.Join(strut.Of(c.a), strut.Of(c.b))); got != c.want {
			t.Errorf("%d and %d: %d, not %d", c.a, c.b, got, c.want)
		}
	}
}

// TestOf: P19.1: the strut of one margin.
func TestOf(t *testing.T) {
	for margin, want := range map[int]strut.Strut{
		0: {}, 1: {Up: 1}, -1: {Down: -1}, 640: {Up: 640}, -640: {Down: -640}, api.MaxLen: {Up: api.MaxLen}, -api.MaxLen: {Down: -api.MaxLen},
		// Numbers are held.
		api.MaxLen + 1: {Up: api.MaxLen}, -api.MaxLen - 1: {Down: -api.MaxLen}, 1<<32 + 1: {Up: api.MaxLen}, most: {Up: api.MaxLen}, least: {Down: -api.MaxLen},
	} {
		if got := strut.Of(margin); got != want {
			t.Errorf("%d: %v, not %v", margin, got, want)
		}
	}
}

// TestJoin: P19.1: the greater Up and the lesser Down.
func TestJoin(t *testing.T) {
	for _, c := range []struct{ a, b, want strut.Strut }{
		{both(0, 0), both(0, 0), both(0, 0)}, {both(10, 0), both(0, 0), both(10, 0)}, {both(10, 0), both(20, 0), both(20, 0)}, {both(20, 0), both(10, 0), both(20, 0)},
		{both(0, -4), both(0, -3), both(0, -4)}, {both(0, 0), both(0, -3), both(0, -3)}, {both(10, 0), both(0, -4), both(10, -4)}, {both(10, -4), both(20, -3), both(20, -4)}, {both(10, -4), both(10, -4), both(10, -4)},
		// Of any struts, such as come from no margins.
		{both(-5, 0), both(-7, 0), both(-5, 0)}, {both(-5, 3), both(-7, 4), both(-5, 3)}, {both(-5, 7), both(0, 0), both(0, 0)}, {both(-5, -7), both(-5, -7), both(-5, -7)},
		// Numbers are held.
		{both(most, least), both(0, 0), both(api.MaxLen, -api.MaxLen)}, {both(least, most), both(least, most), both(-api.MaxLen, api.MaxLen)}, {both(api.MaxLen+1, 0), both(most, -1), both(api.MaxLen, -1)}, {both(1<<32+1, -1<<32-1), both(7, -7), both(api.MaxLen, -api.MaxLen)},
	} {
		if got := strut.Join(c.a, c.b); got != c.want {
			t.Errorf("%v and %v: %v, not %v", c.a, c.b, got, c.want)
		}
	}
}

// TestWorth: P19.1: Up and Down together.
func TestWorth(t *testing.T) {
	for _, c := range []struct {
		s    strut.Strut
		want int
	}{
		{both(0, 0), 0}, {both(10, 0), 10}, {both(0, -4), -4}, {both(10, -4), 6}, {both(4, -10), -6}, {both(-5, 3), -2}, {both(5, 3), 8}, {both(-5, -3), -8},
		{both(api.MaxLen, -api.MaxLen), 0}, {both(api.MaxLen, 1), api.MaxLen}, {both(-1, -api.MaxLen), -api.MaxLen}, {both(most, least), 0}, {both(most, most), api.MaxLen}, {both(least, least), -api.MaxLen}, {both(most, -64), api.MaxLen - 64}, {both(64, least), 64 - api.MaxLen},
	} {
		if got := strut.Worth(c.s); got != c.want {
			t.Errorf("%v: %d, not %d", c.s, got, c.want)
		}
	}
}

// strutOf is the strut of some margins at one place, by the chapter's words.
func strutOf(margins []int) strut.Strut {
	var ups, downs []int
	for _, m := range margins {
		if m = fix.Hold(m); m < 0 {
			downs = append(downs, m)
		} else {
			ups = append(ups, m)
		}
	}
	return both(slices.Max(append(ups, 0)), slices.Min(append(downs, 0)))
}

// joined is some struts joined in an order and a grouping that look like chance.
func joined(c *chance, l []strut.Strut) strut.Strut {
	l = slices.Clone(l)
	for len(l) > 1 {
		i := c.below(len(l))
		a := l[i]
		l = slices.Delete(l, i, i+1)
		i = c.below(len(l))
		if c.below(2) == 0 {
			l[i] = strut.Join(a, l[i])
		} else {
			l[i] = strut.Join(l[i], a)
		}
	}
	return l[0]
}

// TestJoinedAnyhow: P19.1, P19.3: in whichever order and grouping struts are joined, they are that of all their margins.
func TestJoinedAnyhow(t *testing.T) {
	c := chance(1)
	for range 20000 {
		margins := make([]int, 1+c.below(7))
		l := make([]strut.Strut, len(margins))
		for i := range margins {
			margins[i] = someMargin(&c)
			l[i] = strut.Of(margins[i])
		}
		if a, b := joined(&c, l), joined(&c, l); a != b || a != strutOf(margins) {
			t.Fatalf("%v: %v and %v, not %v", margins, a, b, strutOf(margins))
		}
		for i := range l {
			l[i] = both(someMargin(&c), someMargin(&c))
		}
		if a, b := joined(&c, l), joined(&c, l); len(l) > 1 && a != b {
			t.Fatalf("%v: %v and %v", l, a, b)
		}
	}
}

// TestGreatest: P19.6: of margins that are not below 0 the greatest one counts.
func TestGreatest(t *testing.T) {
	c := chance(3)
	for range 10000 {
		s, want := strut.Strut{}, 0
		for range 1 + c.below(6) {
			margin := oneOf(&c, 0, c.below(100), c.below(1<<30), api.MaxLen, api.MaxLen+1, most)
			s, want = strut.Join(s, strut.Of(margin)), max(want, min(margin, api.MaxLen))
		}
		if got := strut.Worth(s); got != want {
			t.Fatalf("%v: %d, not %d", s, got, want)
		}
	}
}

// TestUnchanged: what is handed in stays as it is, and what is answered is new.
func TestUnchanged(t *testing.T) {
	l := []strut.Part{{Top: of(10), Bottom: of(20), H: 64}, {Top: both(most, least), Bottom: of(-3), Through: true}}
	kept := slices.Clone(l)
	a, b := strut.Put(l, true, false), strut.Put(l, true, false)
	a.At[0] = 7
	if !slices.Equal(l, kept) || reflect.DeepEqual(a, b) || b.At[0] != 0 {
		t.Errorf("%v, %v, %v", l, a, b)
	}
}
