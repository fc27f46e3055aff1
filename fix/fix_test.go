package fix_test

import (
	"math"
	"math/big"
	"slices"
	"strings"
	"testing"

	"wainscot/api"
	"wainscot/fix"
)

const (
	end   = api.MaxLen
	least = math.MinInt
	most  = math.MaxInt
)

// edges are numbers at which something may change: around 0, the units, both ends, and beyond them.
func edges() []int {
	l := []int{0}
	for _, n := range []int{1, 2, 3, 7, 63, 64, 65, 500, 999, 1000, 1001, 99999, 100000, 100001, 1 << 15, 46341, 123456789, end - 1, end} {
		l = append(l, n, -n)
	}
	return append(l, most, most-1, least, least+1, most-end, least+end)
}

// held is what the document calls to hold, reckoned by itself.
func held(x *big.Int) int {
	if x.Cmp(big.NewInt(end)) > 0 {
		return end
	}
	if x.Cmp(big.NewInt(-end)) < 0 {
		return -end
	}
	return int(x.Int64())
}

func large(n int) *big.Int {
	return big.NewInt(int64(held(big.NewInt(int64(n)))))
}

// part is Part, reckoned with numbers of any size.
func part(a, n, d int) int {
	if d == 0 {
		return 0
	}
	p := new(big.Int).Mul(large(a), large(n))
	q, r := new(big.Int).QuoRem(p, large(d), new(big.Int))
	if r.Sign()*large(d).Sign() < 0 {
		q.Sub(q, big.NewInt(1))
	}
	return held(q)
}

func TestHold(t *testing.T) {
	for _, c := range [][2]int{
		{0, 0}, {1, 1}, {-1, -1}, {end - 1, end - 1}, {end, end}, {end + 1, end}, {most - 1, end}, {most, end},
		{1 - end, 1 - end}, {-end, -end}, {-end - 1, -end}, {least + 1, -end}, {least, -end},
	} {
		if got := fix.Hold(c[0]); got != c[1] {
			t.Errorf("Hold(%d) is %d, not %d", c[0], got, c[1])
		}
	}
	if end != 1<<30 || api.MaxNum != end {
		t.Error(end, api.MaxNum)
	}
}

func TestAddSub(t *testing.T) {
	for _, c := range [][4]int{ // a, b, their sum, their difference
		{0, 0, 0, 0}, {2, 3, 5, -1}, {-2, 3, 1, -5},
		{end, 1, end, end - 1}, {end, end, end, 0}, {-end, -end, -end, 0}, {-end, 1, 1 - end, -end}, {end, -1, end - 1, end},
		// What is given is held first, so these begin at an end.
		{most, -1, end - 1, end}, {-1, most, end - 1, -end}, {least, 1, 1 - end, -end}, {1, least, 1 - end, end},
		{most, least, 0, end}, {least, most, 0, -end}, {least, least, -end, 0}, {most, most, end, 0},
	} {
		if sum, less := fix.Add(c[0], c[1]), fix.Sub(c[0], c[1]); sum != c[2] || less != c[3] {
			t.Errorf("%d and %d: %d, %d, not %d, %d", c[0], c[1], sum, less, c[2], c[3])
		}
	}
}

func TestPart(t *testing.T) {
	for _, c := range [][4]int{
		{7, 1, 2, 3}, {-7, 1, 2, -4}, {7, -1, 2, -4}, {7, 1, -2, -4}, {-7, 1, -2, 3}, {-7, -1, 2, 3}, {-7, -1, -2, -4},
		{6, 1, 2, 3}, {-6, 1, 2, -3}, {6, 1, -2, -3}, {0, 5, -3, 0}, {5, 0, -3, 0},
		{7, 1, 0, 0}, {0, 0, 0, 0}, {least, most, 0, 0},
		{end, end, end, end}, {end, end, 1, end}, {-end, end, 1, -end}, {-end, -end, 1, end}, {end, end, -1, -end},
		{end, end - 1, end, end - 1}, {-1, 1, end, -1}, {1, 1, end, 0}, {1, -1, end, -1},
		// What is given is held ahead of the product and the division.
		{most, 1, most, 1}, {most, 1, end, 1}, {5, most, most, 5}, {least, 1, most, -1}, {end, 1, least, -1}, {least, least, least, -end},
	} {
		if got := fix.Part(c[0], c[1], c[2]); got != c[3] {
			t.Errorf("Part(%d, %d, %d) is %d, not %d", c[0], c[1], c[2], got, c[3])
		}
	}
}

// TestReckoned holds all that multiplies or adds against numbers of any size.
func TestReckoned(t *testing.T) {
	l := edges()
	for _, a := range l {
		if got := fix.Hold(a); got != held(big.NewInt(int64(a))) {
			t.Errorf("Hold(%d) is %d", a, got)
		}
		if got := fix.Px(a); got != part(a, 64, 1000) {
			t.Errorf("Px(%d) is %d", a, got)
		}
		for _, b := range l {
			if got := fix.Add(a, b); got != held(new(big.Int).Add(large(a), large(b))) {
				t.Errorf("Add(%d, %d) is %d", a, b, got)
			}
			if got := fix.Sub(a, b); got != held(new(big.Int).Sub(large(a), large(b))) {
				t.Errorf("Sub(%d, %d) is %d", a, b, got)
			}
			if got := fix.Percent(a, b); got != part(a, b, 100000) {
				t.Errorf("Percent(%d, %d) is %d", a, b, got)
			}
			for _, d := range l {
				if got := fix.Part(a, b, d); got != part(a, b, d) {
					t.Errorf("Part(%d, %d, %d) is %d, not %d", a, b, d, got, part(a, b, d))
				}
			}
		}
	}
}

func TestPx(t *testing.T) {
	for _, c := range [][2]int{
		{0, 0}, {1000, 64}, {1500, 96}, {-1500, -96}, {15, 0}, {16, 1}, {-1, -1}, {-16, -2}, {31, 1}, {32, 2},
		{end, 68719476}, {-end, -68719477}, {most, 68719476}, {least, -68719477},
	} {
		if got := fix.Px(c[0]); got != c[1] {
			t.Errorf("Px(%d) is %d, not %d", c[0], got, c[1])
		}
	}
}

func TestPercent(t *testing.T) {
	for _, c := range [][3]int{
		{640, 50000, 320}, {640, 100000, 640}, {640, 0, 0}, {0, 50000, 0}, {3, 50000, 1}, {-3, 50000, -2}, {3, -50000, -2},
		{640, 33333, 213}, {1, 99999, 0}, {-1, 1, -1}, {640, 200000, 1280},
		{end, 100001, end}, {end, end, end}, {-end, end, -end}, {most, 100000, end}, {least, 100000, -end}, {100, most, 1073741},
	} {
		if got := fix.Percent(c[0], c[1]); got != c[2] {
			t.Errorf("Percent(%d, %d) is %d, not %d", c[0], c[1], got, c[2])
		}
	}
}

func TestClamp(t *testing.T) {
	for _, c := range [][4]int{
		{5, 1, 9, 5}, {0, 1, 9, 1}, {10, 1, 9, 9}, {1, 1, 9, 1}, {9, 1, 9, 9}, {5, 5, 5, 5}, {-5, -9, -6, -6}, {-10, -9, -6, -9},
		// Where lo is above hi, lo counts.
		{5, 7, 6, 7}, {9, 7, 6, 7}, {0, 7, 6, 7},
		{most, 0, most, end}, {least, least, 0, -end}, {0, most, most, end}, {0, least, least, -end}, {most, most, least, end},
	} {
		if got := fix.Clamp(c[0], c[1], c[2]); got != c[3] {
			t.Errorf("Clamp(%d, %d, %d) is %d, not %d", c[0], c[1], c[2], got, c[3])
		}
	}
}

func TestParse(t *testing.T) {
	noughts := strings.Repeat("0", 5000)
	for _, c := range []struct {
		s string
		n int
	}{
		{"0", 0}, {"-0", 0}, {"+0", 0}, {"7", 7000}, {"+7", 7000}, {"-7", -7000}, {"007", 7000},
		{"-0.5", -500}, {".5", 500}, {"+.5", 500}, {"-.5", -500}, {"1.25", 1250}, {"1.025", 1025}, {"1.002", 1002}, {"1.0", 1000}, {"1.000", 1000},
		// Digits beyond the third one are left out, not rounded.
		{"0.0009", 0}, {"-0.0009", 0}, {"0.9999", 999}, {"-0.9999", -999}, {"1.2345678901234567890", 1234}, {"-1." + noughts, -1000}, {"0.12" + noughts, 120},
		{"1073741.823", end - 1}, {"1073741.824", end}, {"1073741.825", end}, {"1073742", end}, {"1073741824", end}, {"2147483648", end},
		{"-1073741.823", 1 - end}, {"-1073741.824", -end}, {"-1073741.825", -end}, {"-1073742", -end},
		{"9223372036854775808", end}, {"-9223372036854775809", -end}, {"18446744073709551617", end}, {"4294967297", end},
		{"1" + noughts, end}, {"-1" + noughts + ".5", -end}, {noughts + "1" + ".5", 1500},
	} {
		if n, e := fix.Parse(c.s); n != c.n || e != api.OK {
			t.Errorf("Parse(%.40q) is %d, %d, not %d", c.s, n, e, c.n)
		}
	}
}

func TestParseWrong(t *testing.T) {
	for _, s := range []string{
		"", "+", "-", ".", "+.", "-.", "1.", "-1.", "1073742.", "--1", "+-1", "-+1", "1-", "1+", "1.-5", "1.+5", "1..5", "1.5.", "1.5.5", "..5",
		" 1", "1 ", "1 5", "\t1", "1\n", "1,5", "1e3", "0x1", "1_0", "a", "1a", "a1", "1.a", "1.5a", "1%", "1px", "1\x00", "\x001", "/", ":", "1/", "1:", "1.5/", "1.5:",
		"\u0661", "1\u0661", "1.\u0661", "\u22121", "\xff", "1\xff", "1.5\xff", "NaN", "Inf", "-Inf",
	} {
		if n, e := fix.Parse(s); n != 0 || e != api.ErrText {
			t.Errorf("Parse(%q) is %d, %d", s, n, e)
		}
	}
}

func TestPrint(t *testing.T) {
	for _, c := range []struct {
		n int
		s string
	}{
		{0, "0"}, {1000, "1"}, {-1000, "-1"}, {10000, "10"}, {100000, "100"}, {1250, "1.25"}, {1200, "1.2"}, {1205, "1.205"}, {1005, "1.005"}, {1050, "1.05"},
		{1, "0.001"}, {10, "0.01"}, {100, "0.1"}, {-1, "-0.001"}, {-500, "-0.5"}, {999, "0.999"}, {-10050, "-10.05"}, {1000000, "1000"}, {1020304, "1020.304"},
		{end, "1073741.824"}, {-end, "-1073741.824"}, {end - 1, "1073741.823"}, {most, "1073741.824"}, {least, "-1073741.824"}, {1000000000, "1000000"},
	} {
		if got := fix.Print(c.n); got != c.s {
			t.Errorf("Print(%d) is %q, not %q", c.n, got, c.s)
		}
	}
}

// TestPrintedIsRead: P1.3, its first half.
func TestPrintedIsRead(t *testing.T) {
	same := func(n int) {
		s := fix.Print(n)
		if got, e := fix.Parse(s); got != fix.Hold(n) || e != api.OK {
			t.Errorf("%d is printed %q and read %d, %d", n, s, got, e)
		}
	}
	for n := -3000; n <= 3000; n++ {
		same(n)
	}
	for n := -end; n < end-10007; n += 10007 {
		same(n)
	}
	for _, n := range edges() {
		same(n)
	}
}

// TestPartGoesUp: P1.3, its second half.
func TestPartGoesUp(t *testing.T) {
	rising := edges()
	for a := -50; a <= 50; a++ {
		rising = append(rising, a)
	}
	slices.Sort(rising)
	for _, n := range edges() {
		for _, d := range edges() {
			if n > 0 && d < 0 || n < 0 && d > 0 {
				continue
			}
			last := -end
			for _, a := range rising {
				got := fix.Part(a, n, d)
				if got < last {
					t.Fatalf("Part(%d, %d, %d) is %d, less than %d", a, n, d, got, last)
				}
				last = got
			}
		}
	}
}

// TestPercentAndRest: P1.4.
func TestPercentAndRest(t *testing.T) {
	for _, base := range edges() {
		whole := fix.Hold(base)
		for n := 0; n <= 100000; n += 77 {
			both := fix.Percent(base, n) + fix.Percent(base, 100000-n)
			if both != whole && both != whole-1 {
				t.Errorf("of %d %d and the rest make %d", base, n, both)
			}
		}
	}
	if fix.Percent(3, 50000)*2 != 2 || fix.Percent(4, 50000)*2 != 4 {
		t.Error(fix.Percent(3, 50000), fix.Percent(4, 50000))
	}
}

// TestEnds: P1: every call ends, and what it answers is held.
func TestEnds(t *testing.T) {
	check := func(what string, n int) {
		if n < -end || n > end {
			t.Errorf("%s: %d", what, n)
		}
	}
	l := edges()
	for _, a := range l {
		check("Hold", fix.Hold(a))
		check("Px", fix.Px(a))
		if s := fix.Print(a); s == "" || len(s) > 12 {
			t.Errorf("Print(%d) is %q", a, s)
		}
		for _, b := range l {
			check("Add", fix.Add(a, b))
			check("Sub", fix.Sub(a, b))
			check("Percent", fix.Percent(a, b))
			for _, c := range l {
				check("Part", fix.Part(a, b, c))
				check("Clamp", fix.Clamp(a, b, c))
			}
		}
	}
}

// TestParseAnything: P1, of all short texts of the bytes that count, and of every byte.
func TestParseAnything(t *testing.T) {
	texts := []string{""}
	for from, long := 0, 1; long <= 5; long++ {
		to := len(texts)
		for _, s := range texts[from:to] {
			for _, c := range "+-.059 " {
				texts = append(texts, s+string(c))
			}
		}
		from = to
	}
	for c := range 256 {
		texts = append(texts, string([]byte{byte(c)}), string([]byte{'1', byte(c)}), string([]byte{'1', '.', '5', byte(c)}))
	}
	for _, s := range texts {
		n, e := fix.Parse(s)
		if right := isNumber(s); right != (e == api.OK) || !right && (n != 0 || e != api.ErrText) {
			t.Errorf("Parse(%q) is %d, %d", s, n, e)
		}
	}
}

// isNumber tells a number's text by the pieces that it is cut into.
func isNumber(s string) bool {
	if strings.HasPrefix(s, "+") || strings.HasPrefix(s, "-") {
		s = s[1:]
	}
	whole, behind, point := strings.Cut(s, ".")
	return strings.Trim(whole+behind, "0123456789") == "" && (behind != "" || !point && whole != "")
}
