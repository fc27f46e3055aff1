package words_test

import (
	"math"
	"math/big"
	"slices"
	"strings"
	"testing"

	"wainscot/api"
	"wainscot/fix"
	"wainscot/words"
)

const (
	least = math.MinInt
	most  = math.MaxInt
)

// chance hands out numbers that look like chance, the same ones in every run.
type chance uint64

func (c *chance) below(n int) int {
	*c = *c*6364136223846793005 + 1442695040888963407
	return int(uint64(*c)>>33) % n
}

// oneOf is one of some.
func oneOf[T any](c *chance, l ...T) T {
	return l[c.below(len(l))]
}

// ends are numbers at which something may change.
func ends() []int {
	return []int{least, least + 1, -api.MaxLen - 1, -api.MaxLen, -1024, -1000, -7, -1, 0, 1, 7, 999, 1000, 1024, api.MaxLen, api.MaxLen + 1, 1<<32 + 1, most}
}

// The chapter's words, one by one.

// advanceOf is a byte's advance, by the chapter's list.
func advanceOf(c byte) int64 {
	for _, row := range []struct {
		list string
		n    int64
	}{{" ", 250}, {"fijlrt.,:;'!|()[]", 300}, {"mwMW%", 800}, {"ABCDEFGHIJKLNOPQRSTUVXYZ0123456789", 600}} {
		if strings.IndexByte(row.list, c) >= 0 {
			return row.n
		}
	}
	return 500
}

// widthOf is how wide texts are beside one another: no number is too great for it.
func widthOf(l []string, font int) int {
	sum := int64(0)
	for _, c := range []byte(strings.Join(l, " ")) {
		sum += advanceOf(c)
	}
	sum = min(sum, api.MaxNum)
	product := big.NewInt(0).Mul(big.NewInt(int64(fix.Hold(font))), big.NewInt(sum))
	// Euclid's division is downwards, where it is by what is above 0.
	product.Div(product, big.NewInt(1000))
	return int(max(-api.MaxLen, min(product.Int64(), api.MaxLen)))
}

// breakOf is the lines: for each line the next words are tried one by one.
func breakOf(s string, font, room int) []words.Line {
	l := wordsOf(s)
	room = fix.Hold(room)
	var lines []words.Line
	for from := 0; from < len(l); {
		to := from + 1
		for to < len(l) && widthOf(l[from:to+1], font) <= room {
			to++
		}
		lines = append(lines, words.Line{From: from, To: to, W: widthOf(l[from:to], font)})
		from = to
	}
	return lines
}

// wordsOf is all words of a text.
func wordsOf(s string) []string {
	return slices.DeleteFunc(strings.Split(s, " "), func(w string) bool { return w == "" })
}

// someText is one that looks like chance.
func someText(c *chance) string {
	var b []byte
	for range c.below(24) {
		b = append(b, oneOf[byte](c, ' ', ' ', ' ', 'a', 'i', 'M', 'Z', '0', '-', byte(c.below(256))))
	}
	return string(b)
}

// someFont is an em.
func someFont(c *chance) int {
	return oneOf(c, 1024, 1000, 1, 0, 640, c.below(4096), -1000, -c.below(2000), oneOf(c, ends()...))
}

// someRoom is a room at which something may change.
func someRoom(c *chance, s string, font int) int {
	l := wordsOf(s)
	if len(l) == 0 || c.below(8) == 0 {
		return oneOf(c, ends()...)
	}
	i := c.below(len(l))
	return widthOf(l[i:i+1+c.below(len(l)-i)], font) + oneOf(c, -1, 0, 0, 1)
}

// TestExamples: the chapter's own.
func TestExamples(t *testing.T) {
	if got := words.Width([]string{"ab", "cd"}, 1000); got != 2250 {
		t.Errorf("ab cd: %d", got)
	}
	if a, b := words.Extremes("ab cd", 1000); a != 1000 || b != 2250 {
		t.Errorf("ab cd: %d, %d", a, b)
	}
	if got := words.Break("ab cd", 1000, 2000); !slices.Equal(got, []words.Line{{From: 0, To: 1, W: 1000}, {From: 1, To: 2, W: 1000}}) {
		t.Errorf("ab cd: %v", got)
	}
}

// TestSplit: P18.1: all words, in order.
func TestSplit(t *testing.T) {
	for s, want := range map[string][]string{
		"": nil, " ": nil, "    ": nil, "a": {"a"}, " a": {"a"}, "a ": {"a"}, "ab cd": {"ab", "cd"}, "  ab   cd  e ": {"ab", "cd", "e"}, "a a a": {"a", "a", "a"},
		// Only 32 is a blank.
		"a\tb\nc\rd\x00e": {"a\tb\nc\rd\x00e"}, "a\u00a0b": {"a\u00a0b"}, "\xff \xc3 \xa4": {"\xff", "\xc3", "\xa4"}, "\u00e4\u2003\u00f6 \u00fc": {"\u00e4\u2003\u00f6", "\u00fc"}, "\t": {"\t"},
	} {
		if got := words.Split(s); !slices.Equal(got, want) {
			t.Errorf("%q: %q, not %q", s, got, want)
		}
	}
	c := chance(1)
	for range 5000 {
		s := someText(&c)
		if got := words.Split(s); !slices.Equal(got, wordsOf(s)) {
			t.Fatalf("%q: %q", s, got)
		}
	}
}

// TestAdvance: P18.1, of every byte.
func TestAdvance(t *testing.T) {
	for c := range 256 {
		if got := words.Advance(byte(c)); int64(got) != advanceOf(byte(c)) {
			t.Errorf("%q: %d, not %d", byte(c), got, advanceOf(byte(c)))
		}
	}
	for c, want := range map[byte]int{' ': 250, 'i': 300, 'I': 600, ']': 300, '{': 500, '"': 500, '\'': 300, 'm': 800, 'W': 800, '%': 800, 'n': 500, 'N': 600, '0': 600, '9': 600, '@': 500, '/': 500, ':': 300, '\t': 500, 0: 500, 128: 500, 255: 500} {
		if got := words.Advance(c); got != want {
			t.Errorf("%q: %d, not %d", c, got, want)
		}
	}
}

// TestWidth: P18.1.
func TestWidth(t *testing.T) {
	for _, c := range []struct {
		l    []string
		font int
		want int
	}{
		{nil, 1000, 0}, {[]string{}, 1000, 0}, {nil, most, 0}, {[]string{"a"}, 1000, 500}, {[]string{"a", "b"}, 1000, 1250}, {[]string{"a", "b", "i"}, 1000, 1800},
		// Of any texts, blanks in them too.
		{[]string{""}, 1000, 0}, {[]string{"", ""}, 1000, 250}, {[]string{"", "", ""}, 1000, 500}, {[]string{" "}, 1000, 250}, {[]string{" a "}, 1000, 1000}, {[]string{"a b", " "}, 1000, 1750}, {[]string{"\xff\x00"}, 1000, 1000},
		// The greatest whole number that is not above, of all together.
		{[]string{"i"}, 3, 0}, {[]string{"i"}, 4, 1}, {[]string{"iii"}, 3, 2}, {[]string{"i", "i"}, 3, 2}, {[]string{"a"}, -1, -1}, {[]string{"a"}, -1000, -500}, {[]string{"i", "i"}, -3, -3},
		{[]string{"a"}, 0, 0}, {[]string{"a"}, 1024, 512}, {[]string{"aa"}, api.MaxLen, api.MaxLen}, {[]string{"aa"}, most, api.MaxLen}, {[]string{"a"}, most, api.MaxLen / 2}, {[]string{"aaa"}, api.MaxLen, api.MaxLen}, {[]string{"aaa"}, least, -api.MaxLen}, {[]string{"a"}, least, -api.MaxLen / 2},
	} {
		if got := words.Width(c.l, c.font); got != c.want {
			t.Errorf("%q of %d: %d, not %d", c.l, c.font, got, c.want)
		}
	}
	c := chance(3)
	for range 10000 {
		var l []string
		for range c.below(5) {
			l = append(l, someText(&c))
		}
		font := someFont(&c)
		if got := words.Width(l, font); got != widthOf(l, font) {
			t.Fatalf("%q of %d: %d, not %d", l, font, got, widthOf(l, font))
		}
	}
}

// TestBreak: P18.2.
func TestBreak(t *testing.T) {
	type lines = []words.Line
	for _, c := range []struct {
		s          string
		font, room int
		want       lines
	}{
		{"", 1000, 9999, nil}, {"   ", 1000, 9999, nil},
		// The first word stands in its line, whatever the room.
		{"a", 1000, 500, lines{{0, 1, 500}}}, {"a", 1000, 499, lines{{0, 1, 500}}}, {"a", 1000, 0, lines{{0, 1, 500}}}, {"a", 1000, least, lines{{0, 1, 500}}}, {"aaaa b", 1000, 1000, lines{{0, 1, 2000}, {1, 2, 500}}},
		// Just as wide as the room is not above it.
		{"a b", 1000, 1250, lines{{0, 2, 1250}}}, {"a b", 1000, 1249, lines{{0, 1, 500}, {1, 2, 500}}}, {"  a   b  ", 1000, 1250, lines{{0, 2, 1250}}},
		{"a b c d e", 1000, 1250, lines{{0, 2, 1250}, {2, 4, 1250}, {4, 5, 500}}}, {"a b c d e", 1000, 2000, lines{{0, 3, 2000}, {3, 5, 1250}}}, {"a b c", 1000, most, lines{{0, 3, 2000}}}, {"a b c", 1000, -1, lines{{0, 1, 500}, {1, 2, 500}, {2, 3, 500}}},
		// What is too wide stands alone, and what is behind it begins anew.
		{"a mmmm b i", 1000, 1250, lines{{0, 1, 500}, {1, 2, 3200}, {2, 4, 1050}}},
		// An em of nothing, and below.
		{"a b c", 0, 0, lines{{0, 3, 0}}}, {"a b c", 0, -1, lines{{0, 1, 0}, {1, 2, 0}, {2, 3, 0}}}, {"a b c", -1000, -1250, lines{{0, 3, -2000}}}, {"a b c", -1000, -1251, lines{{0, 1, -500}, {1, 2, -500}, {2, 3, -500}}}, {"a b mm", -1000, -2000, lines{{0, 1, -500}, {1, 3, -2350}}},
		// The room is held, as widths are.
		{"aa aa", -api.MaxLen, least, lines{{0, 2, -api.MaxLen}}}, {"aa aa", -api.MaxLen, -api.MaxLen, lines{{0, 2, -api.MaxLen}}}, {"aa aa", -api.MaxLen, 1 - api.MaxLen, lines{{0, 2, -api.MaxLen}}}, {"aa aa", api.MaxLen, api.MaxLen, lines{{0, 2, api.MaxLen}}}, {"aa aa", api.MaxLen, api.MaxLen - 1, lines{{0, 1, api.MaxLen}, {1, 2, api.MaxLen}}}, {"aa aa", most, most, lines{{0, 2, api.MaxLen}}},
		// A line's width is of all its bytes together: three times 0.9 are 2.
		{"iii", 1, 0, lines{{0, 1, 0}}}, {"i i", 1, 0, lines{{0, 2, 0}}}, {"i i i i", 1, 1, lines{{0, 4, 1}}}, {"iii iii iii", 1, 2, lines{{0, 2, 2}, {2, 3, 0}}},
	} {
		if got := words.Break(c.s, c.font, c.room); !slices.Equal(got, c.want) {
			t.Errorf("%q of %d in %d: %v, not %v", c.s, c.font, c.room, got, c.want)
		}
	}
}

// texts hands over all texts of up to n bytes of some.
func texts(some string, n int, take func(s string)) {
	var more func(s string)
	more = func(s string) {
		take(s)
		for i := 0; i < len(some) && len(s) < n; i++ {
			more(s + some[i:i+1])
		}
	}
	more("")
}

// TestBreakReckoned: P18.2, P18.4 of all short texts, in all rooms at which something may change, and of many longer ones.
func TestBreakReckoned(t *testing.T) {
	broken := 0
	check := func(s string, font, room int) {
		got := words.Break(s, font, room)
		if !slices.Equal(got, breakOf(s, font, room)) {
			t.Fatalf("%q of %d in %d: %v, not %v", s, font, room, got, breakOf(s, font, room))
		}
		stands(t, s, font, room, got)
		broken += max(0, len(got)-1)
	}
	texts(" aiM", 6, func(s string) {
		for _, font := range []int{1000, -1000} {
			for _, room := range []int{-1600, -800, 0, 299, 850, 1049, 1050, 1250, 1350, 1549, 1550, 2000, 9999} {
				check(s, font, room)
			}
		}
	})
	c := chance(5)
	for range 20000 {
		s, font := someText(&c), someFont(&c)
		check(s, font, someRoom(&c, s, font))
	}
	if broken < 10000 {
		t.Errorf("%d lines", broken)
	}
}

// stands fails if lines are not as P18.4 says: all words in order, each in one, none of two or more wider than the room, and the next line's first word would not fit.
func stands(t *testing.T, s string, font, room int, lines []words.Line) {
	t.Helper()
	l, at := words.Split(s), 0
	room = fix.Hold(room)
	for k, line := range lines {
		if line.From != at || line.To <= at || line.To > len(l) {
			t.Fatalf("%q of %d in %d: %v", s, font, room, lines)
		}
		at = line.To
		if line.W != words.Width(l[line.From:line.To], font) || line.To-line.From > 1 && line.W > room {
			t.Fatalf("%q of %d in %d: %v", s, font, room, lines)
		}
		if k+1 < len(lines) && words.Width(l[line.From:line.To+1], font) <= room {
			t.Fatalf("%q of %d in %d: %v", s, font, room, lines)
		}
	}
	if at != len(l) {
		t.Fatalf("%q of %d in %d: %v", s, font, room, lines)
	}
}

// TestRooms: P18.5: with more room there are no more lines, in the second extreme there is one, in the first none is wider.
func TestRooms(t *testing.T) {
	c := chance(7)
	for range 20000 {
		s, font := someText(&c), someFont(&c)
		a, b := someRoom(&c, s, font), someRoom(&c, s, font)
		if few, many := words.Break(s, font, max(a, b)), words.Break(s, font, min(a, b)); len(few) > len(many) {
			t.Fatalf("%q of %d: in %d %v, in %d %v", s, font, max(a, b), few, min(a, b), many)
		}
		if font < 0 {
			continue
		}
		widest, all := words.Extremes(s, font)
		if got := words.Break(s, font, all); len(got) != min(1, len(words.Split(s))) {
			t.Fatalf("%q of %d in %d: %v", s, font, all, got)
		}
		for _, line := range words.Break(s, font, widest) {
			if line.W > widest {
				t.Fatalf("%q of %d in %d: %v", s, font, widest, line)
			}
		}
	}
}

// TestExtremes: P18.3.
func TestExtremes(t *testing.T) {
	for _, c := range []struct {
		s            string
		font         int
		widest, most int
	}{
		{"", 1000, 0, 0}, {"   ", 1000, 0, 0}, {"", -1000, 0, 0}, {" ", least, 0, 0}, {"a", 1000, 500, 500}, {" a ", 1000, 500, 500}, {"a mm i", 1000, 1600, 2900}, {"mm a", 1000, 1600, 2350}, {"a  mm", 1000, 1600, 2350}, {"a b", 1, 0, 1},
		// Below 0 the widest one is that which advances least.
		{"a mm i", -1000, -300, -2900}, {"mm", -1000, -1600, -1600}, {"mm a", -1000, -500, -2350}, {"a b", 0, 0, 0}, {"aa b", most, api.MaxLen, api.MaxLen}, {"a b", most, api.MaxLen / 2, api.MaxLen}, {"aa b", least, -api.MaxLen / 2, -api.MaxLen},
	} {
		if a, b := words.Extremes(c.s, c.font); a != c.widest || b != c.most {
			t.Errorf("%q of %d: %d, %d, not %d, %d", c.s, c.font, a, b, c.widest, c.most)
		}
	}
	c := chance(9)
	for range 10000 {
		s, font := someText(&c), someFont(&c)
		l := wordsOf(s)
		var alone []int
		for _, w := range l {
			alone = append(alone, widthOf([]string{w}, font))
		}
		widest := 0
		if len(l) > 0 {
			widest = slices.Max(alone)
		}
		if a, b := words.Extremes(s, font); a != widest || b != widthOf(l, font) {
			t.Fatalf("%q of %d: %d, %d, not %d, %d", s, font, a, b, widest, widthOf(l, font))
		}
	}
}

// TestTall: P18.3.
func TestTall(t *testing.T) {
	for _, c := range []struct{ n, font, line, want int }{
		{1, 1024, 1200, 1228}, {2, 1024, 1200, 2456}, {3, 1000, 1200, 3600}, {0, 1024, 1200, 0}, {-1, 1024, 1200, 0}, {least, 1024, 1200, 0}, {1, 0, 1200, 0}, {1, 1024, 0, 0},
		// The em's part is the greatest whole number that is not above, ahead of being taken n times.
		{10, 3, 500, 10}, {10, 1, 999, 0}, {1000, 1, 1999, 1000}, {1, -1000, 1200, 0}, {1, 1000, -1200, 0}, {2, -1000, -1200, 2400}, {-2, -1000, 1200, 0}, {-2, 1000, -1200, 0}, {5, -1, 1, 0},
		// All is held.
		{1, most, 1000, api.MaxLen}, {1, api.MaxLen, 2000, api.MaxLen}, {1, api.MaxLen, 500, api.MaxLen / 2}, {3, api.MaxLen, 500, api.MaxLen}, {2, api.MaxLen, 500, api.MaxLen}, {most, 1, 1000, api.MaxLen}, {most, most, most, api.MaxLen}, {most, 1, 999, 0}, {api.MaxLen + 1, 1000, 1, api.MaxLen}, {1 << 20, 1 << 20, 1000, api.MaxLen}, {1, least, least, api.MaxLen}, {most, least, 1, 0}, {1, 1, most, api.MaxLen / 1000},
	} {
		if got := words.Tall(c.n, c.font, c.line); got != c.want {
			t.Errorf("%d of %d by %d: %d, not %d", c.n, c.font, c.line, got, c.want)
		}
	}
	held := func(n *big.Int) *big.Int {
		end := big.NewInt(api.MaxLen)
		if n.Cmp(end) > 0 {
			return end
		}
		if end.Neg(end); n.Cmp(end) < 0 {
			return end
		}
		return n
	}
	c := chance(11)
	some := func() int { return oneOf(&c, append(ends(), c.below(100), c.below(5000), c.below(1<<31)-1<<30)...) }
	for range 20000 {
		n, font, line := some(), some(), some()
		one := held(big.NewInt(0).Div(big.NewInt(0).Mul(held(big.NewInt(int64(font))), held(big.NewInt(int64(line)))), big.NewInt(1000)))
		want := 0
		if n > 0 && one.Sign() > 0 {
			want = int(held(one.Mul(one, held(big.NewInt(int64(n))))).Int64())
		}
		if got := words.Tall(n, font, line); got != want {
			t.Fatalf("%d of %d by %d: %d, not %d", n, font, line, got, want)
		}
	}
}

// TestSilent: what is handed in stays as it is, and what is answered is new.
func TestSilent(t *testing.T) {
	l := []string{"a", "b c", ""}
	words.Width(l, 1000)
	if !slices.Equal(l, []string{"a", "b c", ""}) {
		t.Errorf("%q", l)
	}
	a, b := words.Split("a b"), words.Split("a b")
	a[0] = "x"
	x, y := words.Break("a b", 1000, 0), words.Break("a b", 1000, 0)
	x[0].W = 7
	if b[0] != "a" || y[0].W != 500 {
		t.Errorf("%q, %v", b, y)
	}
}

// TestAnything: P1: every call ends and none panics, whatever it is given.
func TestAnything(t *testing.T) {
	c := chance(13)
	for range 20000 {
		s, font, room := someText(&c), oneOf(&c, ends()...), oneOf(&c, ends()...)
		w := words.Width([]string{s, s}, font)
		a, b := words.Extremes(s, font)
		tall := words.Tall(oneOf(&c, ends()...), font, room)
		for _, n := range []int{w, a, b, tall} {
			if n != fix.Hold(n) {
				t.Fatalf("%q of %d: %d", s, font, n)
			}
		}
		stands(t, s, font, room, words.Break(s, font, room))
	}
	// However long, and however many.
	for _, s := range []string{strings.Repeat("m", 1<<21), strings.Repeat(" ", 1<<21), strings.Repeat("m ", 1<<20), strings.Repeat("\xff", 1<<20)} {
		for _, font := range []int{least, 1, most} {
			words.Extremes(s, font)
			words.Break(s, font, 0)
			words.Break(s, font, most)
		}
	}
	// More than a number may be: 800 of each byte are more than 2^30 together.
	if got := words.Width([]string{strings.Repeat("m", 1<<21)}, 1000); got != api.MaxLen {
		t.Errorf("%d", got)
	}
	if got := words.Width([]string{strings.Repeat("m", 1<<21)}, 1); got != api.MaxNum/1000 {
		t.Errorf("%d", got)
	}
}
