package value_test

import (
	"regexp"
	"slices"
	"strings"
	"testing"

	"wainscot/api"
	"wainscot/lex"
	"wainscot/tree"
	"wainscot/value"
)

// alphabet has tokens of every kind at which something may change.
func alphabet() []api.Token {
	return []api.Token{
		sign(api.Space), delim("/"), num(2000), num(0), num(-1000), num(1<<30 + 1), pct(50000), pct(-1 << 31), dim(5, "px"), dim(5, "rem"),
		ident("auto"), ident("a"), ident(""), sign(api.Comma), delim("."),
	}
}

// lists hands over all lists of up to n tokens of some.
func lists(some []api.Token, n int, take func(l []api.Token)) {
	var more func(l []api.Token)
	more = func(l []api.Token) {
		take(l)
		for i := 0; i < len(some) && len(l) < n; i++ {
			more(append(l[:len(l):len(l)], some[i]))
		}
	}
	more(nil)
}

// letter answers a byte for a token: n for a number that may stand anywhere, m for one below 0, o for one beyond the end; x for what is in no value.
func letter(k api.Token) byte {
	held := k.N >= -1<<30 && k.N <= 1<<30
	switch {
	case k.Kind == api.Num && !held:
		return 'o'
	case k.Kind == api.Num:
		return "nm"[min(-min(k.N, 0), 1)]
	case k.Kind == api.Pct && held:
		return 'p'
	case k.Kind == api.Dim && held && slices.Contains(allUnits(), k.Text):
		return 'd'
	case k.Kind == api.Ident && slices.Contains(allWords(), k.Text):
		return 'w'
	case k.Kind == api.Ident && tree.Name(k.Text):
		return 'a'
	case k.Kind == api.Space:
		return ' '
	case k.Kind == api.Delim && k.Text == "/":
		return '/'
	}
	return 'x'
}

// letters answers a byte for each token.
func letters(l []api.Token) string {
	var b strings.Builder
	for _, k := range l {
		b.WriteByte(letter(k))
	}
	return b.String()
}

const valueForm = `n */ *n|[nmpdwa]`

var (
	ratioBegins = regexp.MustCompile(`^[nmo] */ *[nmo]`)
	valueBegins = regexp.MustCompile(`^(?:` + valueForm + `)`)
	oneForm     = regexp.MustCompile(valueForm)
	allForm     = regexp.MustCompile(`^ *(?:` + valueForm + `)(?: +(?:` + valueForm + `))* *$`)
)

// valueOf answers the value that tokens are, all of them.
func valueOf(l []api.Token) api.Value {
	k := l[0]
	switch letter(k) {
	case 'n', 'm':
		if len(l) > 1 {
			return ratio(k.N, l[len(l)-1].N)
		}
		return numberOf(k.N)
	case 'p':
		return percent(k.N)
	case 'd':
		return length(k.N, 1+slices.Index(allUnits(), k.Text))
	case 'w':
		return wordOf(1 + slices.Index(allWords(), k.Text))
	}
	return nameOf(k.Text)
}

// readOf is Read by the chapter's words.
func readOf(l []api.Token) (api.Value, int) {
	s := letters(l)
	found := valueBegins.FindString(s)
	// What has the form of a ratio is one, or nothing.
	if ratioBegins.MatchString(s) && len(found) == 1 {
		return api.Value{}, 0
	}
	if found == "" {
		return api.Value{}, 0
	}
	return valueOf(l[:len(found)]), len(found)
}

// parseOf is Parse by the chapter's words.
func parseOf(l []api.Token) ([]api.Value, api.Errno) {
	s := letters(l)
	if !allForm.MatchString(s) {
		return nil, api.ErrValue
	}
	var all []api.Value
	for _, at := range oneForm.FindAllStringIndex(s, -1) {
		all = append(all, valueOf(l[at[0]:at[1]]))
	}
	return all, api.OK
}

// TestRead: P9.2.
func TestRead(t *testing.T) {
	for _, c := range []struct {
		s     string
		want  api.Value
		takes int
	}{
		{"1.5em", length(1500, api.Em), 1}, {"auto 16/9", wordOf(1), 1}, {"16/9", ratio(16000, 9000), 3}, {"16 /9 auto", ratio(16000, 9000), 4}, {"16/ 9", ratio(16000, 9000), 4}, {"16 /**/ / /**/ 9px", numberOf(16000), 1}, {"0/0", ratio(0, 0), 3}, {"1/2/3", ratio(1000, 2000), 3},
		{"1 /**/ / /**/ 2", ratio(1000, 2000), 7}, {"7", numberOf(7000), 1}, {"-7 8", numberOf(-7000), 1}, {"7/", numberOf(7000), 1}, {"7 / ", numberOf(7000), 1}, {"7/a", numberOf(7000), 1}, {"7/8%", numberOf(7000), 1}, {"7/8px", numberOf(7000), 1}, {"1,2", numberOf(1000), 1},
		{"50%", percent(50000), 1}, {"-.5%/1", percent(-500), 1}, {"2px/3px", length(2000, api.Px), 1}, {"3cqmin", length(3000, api.Cqmin), 1}, {"-1cqb", length(-1000, api.Cqb), 1},
		{"row-reverse", wordOf(11), 1}, {"card", nameOf("card"), 1}, {"Auto", nameOf("Auto"), 1}, {"px", nameOf("px"), 1}, {strings.Repeat("a", 32), nameOf(strings.Repeat("a", 32)), 1}, {"auto(", api.Value{}, 0}, {"99999999999", numberOf(1 << 30), 1},
		// None begins it.
		{"", api.Value{}, 0}, {" 1px", api.Value{}, 0}, {"/1", api.Value{}, 0}, {"1rem", api.Value{}, 0}, {"1PX", api.Value{}, 0}, {"-1/2", api.Value{}, 0}, {"1/-2", api.Value{}, 0}, {strings.Repeat("a", 33), api.Value{}, 0}, {"#a", api.Value{}, 0}, {"@a", api.Value{}, 0}, {"'a'", api.Value{}, 0}, {"a(1)", api.Value{}, 0}, {"(1)", api.Value{}, 0}, {"!", api.Value{}, 0}, {",", api.Value{}, 0}, {"*", api.Value{}, 0},
	} {
		if got, n := value.Read(cut(t, c.s)); got != c.want || n != c.takes {
			t.Errorf("%q: %v of %d, not %v of %d", c.s, got, n, c.want, c.takes)
		}
	}
	// Numbers that there are not, texts that are none.
	for _, k := range []api.Token{num(1<<30 + 1), num(most), pct(least), dim(-1<<30-1, "px"), dim(1, ""), ident(""), ident("a b"), {}, {Kind: 1 << 32}, {Kind: -1}, {Kind: api.Name + 100}} {
		if got, n := value.Read([]api.Token{k, sign(api.Space), num(1)}); got != (api.Value{}) || n != 0 {
			t.Errorf("%v: %v of %d", k, got, n)
		}
	}
}

// TestReadReckoned: P9.2, of all short lists.
func TestReadReckoned(t *testing.T) {
	some := 0
	lists(alphabet(), 5, func(l []api.Token) {
		want, takes := readOf(l)
		if got, n := value.Read(l); got != want || n != takes {
			t.Fatalf("%v: %v of %d, not %v of %d", l, got, n, want, takes)
		}
		some += min(takes, 1)
	})
	if some < 1000 {
		t.Error(some)
	}
}

// TestParse: P9.3.
func TestParse(t *testing.T) {
	for _, c := range []struct {
		s    string
		want []api.Value
	}{
		{"1.5em auto 16/9", []api.Value{length(1500, api.Em), wordOf(1), ratio(16000, 9000)}}, {"a", []api.Value{nameOf("a")}}, {"  a  ", []api.Value{nameOf("a")}}, {"1px/**/ /**/ 2px", []api.Value{length(1000, 1), length(2000, 1)}},
		{"1 2 / 3 4", []api.Value{numberOf(1000), ratio(2000, 3000), numberOf(4000)}}, {"1 -2", []api.Value{numberOf(1000), numberOf(-2000)}}, {"1/2 3/4", []api.Value{ratio(1000, 2000), ratio(3000, 4000)}}, {"none none none none none", []api.Value{wordOf(2), wordOf(2), wordOf(2), wordOf(2), wordOf(2)}},
		{"", nil}, {" ", nil}, {"1px,2px", nil}, {"1px, 2px", nil}, {"1px 2px,", nil}, {"1px/2px", nil}, {"1px / 2px", nil}, {"1 /", nil}, {"/ 1", nil}, {"1/2/3", nil}, {"1 / 2 / 3", nil}, {"a/b", nil}, {"a b;", nil}, {"a (b)", nil}, {"1rem", nil}, {"a 1rem", nil}, {"1px/**/2px", nil}, {"a/**/b", nil}, {"1%2%", nil}, {"1-2", nil}, {"-1/2", nil}, {"1/-2", nil}, {"1 -1/2", nil}, {"'a'", nil}, {"a !important", nil},
	} {
		want := api.OK
		if c.want == nil {
			want = api.ErrValue
		}
		if got, e := value.Parse(cut(t, c.s)); !slices.Equal(got, c.want) || e != want {
			t.Errorf("%q: %v, %d, not %v", c.s, got, e, c.want)
		}
	}
}

// TestParseReckoned: P9.3, of all short lists, and of longer ones that are nearly right.
func TestParseReckoned(t *testing.T) {
	some := 0
	check := func(l []api.Token) {
		want, wrong := parseOf(l)
		if got, e := value.Parse(l); !slices.Equal(got, want) || e != wrong {
			t.Fatalf("%v: %v, %d, not %v, %d", l, got, e, want, wrong)
		}
		some += min(len(want), 1)
	}
	lists(alphabet(), 5, check)
	c := chance(11)
	for range 20000 {
		var l []api.Token
		for range c.below(8) {
			l = append(l, value.Tokens(someValue(&c))...)
			l = append(l, sign(api.Space))
		}
		for range c.below(3) {
			if len(l) > 0 {
				i := c.below(len(l))
				l = slices.Replace(l, i, i+c.below(2), slices.Repeat([]api.Token{oneOf(&c, alphabet()...)}, c.below(2))...)
			}
		}
		check(l)
	}
	if some < 5000 {
		t.Error(some)
	}
}

// TestReadAsItWas: P9.4, of tokens and of the text that they are printed as. (A Number behind whose Space a / and a number stand is a ratio by P9.2.)
func TestReadAsItWas(t *testing.T) {
	c := chance(13)
	for range 20000 {
		v := someValue(&c)
		l := value.Tokens(v)
		n := len(l)
		if c.below(4) > 0 {
			l = append(l, sign(api.Space))
			for range c.below(4) {
				l = append(l, oneOf(&c, alphabet()...))
			}
		}
		if v.Kind == api.Number && ratioBegins.MatchString(letters(l)) {
			continue
		}
		if got, takes := value.Read(l); got != v || takes != n {
			t.Fatalf("%v of %v is read as %v of %d", v, l, got, takes)
		}
		s, e := lex.Print(l[:n])
		if got, takes := value.Read(cut(t, s+" b")); e != api.OK || got != v || takes != n {
			t.Fatalf("%q is read as %v of %d: %d", s, got, takes, e)
		}
	}
}

// TestOneByOne: P9.5: values with Spaces between.
func TestOneByOne(t *testing.T) {
	c := chance(17)
	for range 5000 {
		var want []api.Value
		var l []api.Token
		for range 1 + c.below(6) {
			want = append(want, someValue(&c))
			l = slices.Concat(l, value.Tokens(want[len(want)-1]), slices.Repeat([]api.Token{sign(api.Space)}, 1+c.below(3)))
		}
		if got, e := value.Parse(l); e != api.OK || !slices.Equal(got, want) {
			t.Fatalf("%v is parsed as %v: %d", want, got, e)
		}
		var read []api.Value
		for len(l) > 0 {
			v, n := value.Read(l)
			if n == 0 {
				t.Fatalf("nothing is read of %v", l)
			}
			read, l = append(read, v), l[n:]
			for len(l) > 0 && l[0].Kind == api.Space {
				l = l[1:]
			}
		}
		if !slices.Equal(read, want) {
			t.Fatalf("%v is read as %v", want, read)
		}
	}
}

// TestNew: what is handed in stays as it is, and what is answered is new.
func TestNew(t *testing.T) {
	c := chance(19)
	for range 500 {
		v := someValue(&c)
		l := value.Tokens(v)
		was := slices.Clone(l)
		padded := slices.Concat([]api.Token{sign(api.Space)}, l, []api.Token{sign(api.Space), ident("b")})
		before := slices.Clone(padded)
		got, _ := value.Parse(padded)
		again, _ := value.Parse(padded)
		value.Read(l)
		if !slices.Equal(padded, before) || !slices.Equal(l, was) {
			t.Fatalf("of %v tokens were changed", v)
		}
		spoil(l)
		spoil(got)
		spoil(padded)
		if !slices.Equal(value.Tokens(v), was) || again[0] != v || again[1] != nameOf("b") {
			t.Fatalf("of %v something is shared", v)
		}
	}
}

// spoil makes all that a list's memory has zero.
func spoil[T any](l []T) {
	clear(l[:cap(l)])
}
