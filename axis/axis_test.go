package axis_test

import (
	"math"
	"testing"

	"wainscot/api"
	"wainscot/axis"
	"wainscot/fix"
)

const (
	end   = api.MaxLen
	least = math.MinInt
	most  = math.MaxInt
)

var (
	nan  = math.NaN()
	inf  = math.Inf(1)
	less = math.Inf(-1)
	// nought is the one below 0.
	nought = math.Copysign(0, -1)
)

// lengths are numbers at which something may change, beyond both ends too.
func lengths() []int {
	return []int{0, 1, -1, 2, -3, 63, 64, 65, -64, 1000, -1000, end / 2, -end / 2, end - 1, end, end + 1, 1 - end, -end, -end - 1, most, most - 1, least, least + 1}
}

// parts are floats of which a vector may be made, right or wrong.
func parts() []float64 {
	return []float64{
		0, nought, 1, -1, 0.5, -0.5, 0.999999, -0.999999, 1.5, -1.5, 64, -63.75, end - 1, end - 0.5, end, end + 0.5, end + 1, 0.5 - end, -end, -end - 0.5, -end - 1,
		1 << 40, -(1 << 40), 1e300, -1e300, math.MaxFloat64, -math.MaxFloat64, math.SmallestNonzeroFloat64, -math.SmallestNonzeroFloat64, 1 << 63, -(1 << 63), nan, inf, less,
	}
}

// whole is what a part counts as, by the document's words.
func whole(f float64) int {
	if f != f {
		return 0
	}
	return int(math.Trunc(math.Min(end, math.Max(-end, f))))
}

// vector fails if v is none, or has a nought below 0, or is not of x and y.
func vector(t *testing.T, what string, v complex128, x, y int) {
	t.Helper()
	if real(v) != float64(x) || imag(v) != float64(y) {
		t.Fatalf("%s is %v, not %d and %d", what, v, x, y)
	}
	for _, f := range []float64{real(v), imag(v)} {
		if f == 0 && math.Signbit(f) {
			t.Fatalf("%s is %v, with a nought below 0", what, v)
		}
	}
}

// vectors are all complex numbers of these parts.
func vectors() []complex128 {
	var l []complex128
	for _, x := range parts() {
		for _, y := range parts() {
			l = append(l, complex(x, y))
		}
	}
	return l
}

func TestWays(t *testing.T) {
	if axis.Row != 0 || axis.RowBack != 1 || axis.Column != 2 || axis.ColumnBack != 3 {
		t.Error(axis.Row, axis.RowBack, axis.Column, axis.ColumnBack)
	}
}

func TestOf(t *testing.T) {
	vector(t, "Of(3, -5)", axis.Of(3, -5), 3, -5)
	for _, x := range lengths() {
		for _, y := range lengths() {
			v := axis.Of(x, y)
			vector(t, "Of", v, fix.Hold(x), fix.Hold(y))
			if axis.X(v) != fix.Hold(x) || axis.Y(v) != fix.Hold(y) {
				t.Fatal(x, y, v)
			}
		}
	}
}

func TestParts(t *testing.T) {
	for _, c := range []struct {
		part float64
		want int
	}{
		{0, 0}, {nought, 0}, {7, 7}, {-7, -7},
		// What is behind the point is left out, above 0 and below.
		{1.999, 1}, {-1.999, -1}, {0.999, 0}, {-0.999, 0}, {-1, -1},
		{end, end}, {end + 0.5, end}, {end + 1, end}, {end - 0.5, end - 1}, {-end, -end}, {-end - 1, -end}, {0.5 - end, 1 - end},
		{1 << 62, end}, {1 << 63, end}, {1 << 64, end}, {-(1 << 63), -end}, {-(1 << 64), -end}, {1e300, end}, {-1e300, -end},
		{inf, end}, {less, -end}, {nan, 0}, {math.SmallestNonzeroFloat64, 0},
	} {
		if got := axis.X(complex(c.part, 12)); got != c.want {
			t.Errorf("X of %v is %d, not %d", c.part, got, c.want)
		}
		if got := axis.Y(complex(12, c.part)); got != c.want {
			t.Errorf("Y of %v is %d, not %d", c.part, got, c.want)
		}
		// One part says nothing of the other.
		if x, y := axis.X(complex(12, c.part)), axis.Y(complex(-12, c.part)); x != 12 || y != c.want {
			t.Errorf("beside %v: %d, %d", c.part, x, y)
		}
	}
}

func TestPlus(t *testing.T) {
	for _, c := range []struct {
		v, w complex128
		x, y int
	}{
		{3 + 5i, 10 - 7i, 13, -2},
		{0, 0, 0, 0},
		{complex(nought, nought), complex(nought, nought), 0, 0},
		{-3 + 5i, 3 - 5i, 0, 0},
		// What is behind the point is left out ahead of the sum.
		{0.75 - 0.75i, 0.75 - 0.75i, 0, 0},
		{1.5 - 1.5i, 1.5 - 1.5i, 2, -2},
		{end + 1i, 1 + end*1i, end, end},
		{-end - 1i, -1 - end*1i, -end, -end},
		// Each is held ahead of the sum.
		{complex(1e300, -1e300), -1 + 1i, end - 1, 1 - end},
		{complex(inf, less), complex(less, inf), 0, 0},
		{complex(nan, 4), complex(5, nan), 5, 4},
	} {
		vector(t, "the sum", axis.Plus(c.v, c.w), c.x, c.y)
		vector(t, "the sum", axis.Plus(c.w, c.v), c.x, c.y)
	}
}

func TestSwap(t *testing.T) {
	vector(t, "swapped", axis.Swap(3+5i), 5, 3)
	vector(t, "swapped", axis.Swap(-3), 0, -3)
	vector(t, "swapped", axis.Swap(-3i), -3, 0)
	vector(t, "swapped", axis.Swap(complex(nan, inf)), end, 0)
	vector(t, "swapped", axis.Swap(complex(less, -7.9)), -7, -end)
}

func TestFlow(t *testing.T) {
	for _, c := range []struct {
		way  int
		x, y int
	}{
		{axis.Row, 3, 5}, {axis.RowBack, 3, 5}, {axis.Column, 5, 3}, {axis.ColumnBack, 5, 3},
		// A number that is none of these counts as Row.
		{4, 3, 5}, {-1, 3, 5}, {-2, 3, 5}, {-3, 3, 5}, {6, 3, 5}, {7, 3, 5}, {1 << 32, 3, 5}, {1<<32 + 2, 3, 5}, {most, 3, 5}, {least, 3, 5}, {least + 2, 3, 5},
	} {
		vector(t, "the flow vector", axis.Flow(c.way, 3+5i), c.x, c.y)
		vector(t, "the flow vector", axis.Flow(c.way, 3.7+5.2i), c.x, c.y)
	}
	vector(t, "the flow vector", axis.Flow(axis.Row, complex(nan, less)), 0, -end)
	vector(t, "the flow vector", axis.Flow(axis.RowBack, complex(nought, inf)), 0, end)
	vector(t, "the flow vector", axis.Flow(axis.Column, complex(nan, less)), -end, 0)
}

func TestPut(t *testing.T) {
	const room, at, size = 100 + 50i, 10 + 5i, 20 + 7i
	for _, c := range []struct {
		way    int
		turned bool
		x, y   int
	}{
		{axis.Row, false, 10, 5}, {axis.Row, true, 10, 38},
		{axis.RowBack, false, 70, 5}, {axis.RowBack, true, 70, 38},
		{axis.Column, false, 5, 10}, {axis.Column, true, 38, 10},
		{axis.ColumnBack, false, 5, 70}, {axis.ColumnBack, true, 38, 70},
		{4, false, 10, 5}, {-1, true, 10, 38}, {most, true, 10, 38}, {least, false, 10, 5}, {-3, false, 10, 5},
	} {
		vector(t, "the place", axis.Put(c.way, c.turned, room, at, size), c.x, c.y)
	}
	// Out of the room it goes on.
	vector(t, "the place", axis.Put(axis.RowBack, true, 10+10i, 5+20i, 7), -2, -10)
	// The first difference is held ahead of the second one: the sum of both would tell something else.
	vector(t, "the place", axis.Put(axis.RowBack, false, -end, 5, -7), 7-end, 0)
	vector(t, "the place", axis.Put(axis.RowBack, false, end, -5, 7), end-7, 0)
	vector(t, "the place", axis.Put(axis.Row, true, -end*1i, 5i, -7i), 0, 7-end)
	vector(t, "the place", axis.Put(axis.RowBack, true, complex(nan, inf), complex(1.5, nan), complex(-0.5, 2.5)), -1, end-2)
}

// placed is Put, by the document's words, of whole numbers one by one.
func placed(way int, turned bool, room, at, size complex128) (x, y int) {
	main, across := whole(real(at)), whole(imag(at))
	if way == 1 || way == 3 {
		main = fix.Sub(fix.Sub(whole(real(room)), main), whole(real(size)))
	}
	if turned {
		across = fix.Sub(fix.Sub(whole(imag(room)), across), whole(imag(size)))
	}
	if way == 2 || way == 3 {
		return across, main
	}
	return main, across
}

// TestReckoned: P3.1 to P3.4 and P1, of all vectors and of what is none: each answer is what the parts make.
func TestReckoned(t *testing.T) {
	all := vectors()
	for i, v := range all {
		x, y := whole(real(v)), whole(imag(v))
		if axis.X(v) != x || axis.Y(v) != y {
			t.Fatal(v, axis.X(v), axis.Y(v))
		}
		vector(t, "swapped", axis.Swap(v), y, x)
		vector(t, "swapped twice", axis.Swap(axis.Swap(v)), x, y)
		// Others are picked far off, so that all kinds meet.
		w, u := all[(i*7+5)%len(all)], all[(i*11+3)%len(all)]
		vector(t, "the sum", axis.Plus(v, w), fix.Add(x, whole(real(w))), fix.Add(y, whole(imag(w))))
		for way := -2; way < 7; way++ {
			if way == axis.Column || way == axis.ColumnBack {
				vector(t, "flow", axis.Flow(way, v), y, x)
			} else {
				vector(t, "flow", axis.Flow(way, v), x, y)
			}
			vector(t, "flow twice", axis.Flow(way, axis.Flow(way, v)), x, y)
			for _, turned := range []bool{false, true} {
				px, py := placed(way, turned, v, w, u)
				vector(t, "the place", axis.Put(way, turned, v, w, u), px, py)
			}
		}
	}
}

// TestTwice: P3.4: twice, a vector is as it was.
func TestTwice(t *testing.T) {
	for _, x := range lengths() {
		for _, y := range lengths() {
			v := axis.Of(x, y)
			if axis.Swap(axis.Swap(v)) != v {
				t.Fatalf("%v is %v", v, axis.Swap(axis.Swap(v)))
			}
			for _, way := range []int{axis.Row, axis.RowBack, axis.Column, axis.ColumnBack, -1, 4, most, least} {
				if axis.Flow(way, axis.Flow(way, v)) != v {
					t.Fatalf("%v is %v in way %d", v, axis.Flow(way, axis.Flow(way, v)), way)
				}
			}
		}
	}
}

// spans are rooms, with where something begins in them and how large it is.
func spans() [][3]int {
	var l [][3]int
	for _, room := range []int{0, 1, 2, 5, 64, 1000, end - 1, end} {
		for _, at := range []int{0, 1, room / 3, room / 2, room - 1, room} {
			for _, size := range []int{0, 1, (room - at) / 2, room - at - 1, room - at} {
				if at >= 0 && at <= room && size >= 0 && at+size <= room {
					l = append(l, [3]int{room, at, size})
				}
			}
		}
	}
	return l
}

// TestInRoom: P3.5: what begins and ends in a room stands in it.
func TestInRoom(t *testing.T) {
	for _, a := range spans() {
		for _, b := range spans() {
			room, at, size := axis.Of(a[0], b[0]), axis.Of(a[1], b[1]), axis.Of(a[2], b[2])
			for way := -1; way < 5; way++ {
				for _, turned := range []bool{false, true} {
					place := axis.Put(way, turned, room, at, size)
					far := axis.Plus(place, axis.Flow(way, size))
					wide := axis.Flow(way, room)
					if axis.X(place) < 0 || axis.Y(place) < 0 || axis.X(far) > axis.X(wide) || axis.Y(far) > axis.Y(wide) {
						t.Fatalf("way %d, turned %v: %v at %v in %v stands from %v to %v", way, turned, size, at, room, place, far)
					}
				}
			}
		}
	}
}
