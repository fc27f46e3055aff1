package markup_test

import (
	"regexp"
	"slices"
	"strings"
	"testing"

	"wainscot/api"
	"wainscot/markup"
	"wainscot/tree"
)

// The forms of what a tree's text is made of; ' stands for words, n for a name and ! for an element with its { and }.
const (
	nameForm  = `(?:[A-Za-z_]|[^\x00-\x7f]|-(?:[A-Za-z_-]|[^\x00-\x7f]))(?:[A-Za-z0-9_-]|[^\x00-\x7f])*`
	wordsForm = `"[^"\x00-\x1f]*"`
	blankForm = `[\t\n\r ]*`
	marksForm = `(?:\.n|\[n='\])*`
	headForm  = `n` + marksForm + `(?:#n` + marksForm + `)?`
	partForm  = `\.` + nameForm + `|#` + nameForm + `|\[` + nameForm + `=` + wordsForm + `\]`
)

var (
	quoted = regexp.MustCompile(wordsForm)
	named  = regexp.MustCompile(nameForm)
	braced = regexp.MustCompile(headForm + blankForm + `\{` + blankForm + `(?:(?:` + headForm + `|'|!)` + blankForm + `)*\}`)
	whole  = regexp.MustCompile(`^` + blankForm + `(?:` + headForm + `|!)` + blankForm + `$`)
	pieces = regexp.MustCompile(wordsForm + `|[{}]|` + nameForm + `(?:` + partForm + `)*`)
	heads  = regexp.MustCompile(`^` + nameForm + `|` + partForm)
)

// isText tells whether s is a tree's text by the chapter's words, however many there are of anything; s has no ' and no !.
func isText(s string) bool {
	s = named.ReplaceAllString(quoted.ReplaceAllString(s, "'"), "n")
	for braced.MatchString(s) {
		s = braced.ReplaceAllString(s, "!")
	}
	return whole.MatchString(s)
}

// begins tells whether s is the beginning of a tree's text: something that may end a piece, and closings, make it one.
func begins(s string) bool {
	for _, rest := range []string{"", "a", `a=""]`, `=""]`, `""]`, `"]`, `]`, `"`} {
		for n := range 1 + strings.Count(s, "{") {
			if isText(s + rest + strings.Repeat("}", n)) {
				return true
			}
		}
	}
	return false
}

// elementOf is the element whose beginning is a text.
func elementOf(s string) api.Node {
	var n api.Node
	for _, part := range heads.FindAllString(s, -1) {
		switch part[0] {
		case '#':
			n.ID = part[1:]
		case '.':
			n.Classes = append(n.Classes, part[1:])
		case '[':
			name, value, _ := strings.Cut(part[1:len(part)-2], `="`)
			n.Attrs = append(n.Attrs, api.Attr{Name: name, Value: value})
		default:
			n.Tag = part
		}
	}
	return n
}

// treeOf is the tree of a tree's text.
func treeOf(s string) []api.Node {
	b := tree.New()
	bare := false
	shut := func() {
		if bare {
			b.Close()
		}
		bare = false
	}
	for _, piece := range pieces.FindAllString(s, -1) {
		if piece == "{" {
			bare = false
			continue
		}
		shut()
		switch piece[0] {
		case '}':
			b.Close()
		case '"':
			b.Words(piece[1 : len(piece)-1])
		default:
			b.Open(elementOf(piece))
			bare = true
		}
	}
	shut()
	l, _ := b.Done()
	return l
}

// reads fails if a text is not read as a tree.
func reads(t *testing.T, s string, want []api.Node) {
	t.Helper()
	if got, at, e := markup.Parse(s); e != api.OK || at != 0 || !same(got, want) {
		t.Fatalf("%q: %v, %d, %d, not %v", s, got, at, e, want)
	}
}

// fails fails if a text is not answered an error at a place.
func fails(t *testing.T, s string, at int, e api.Errno) {
	t.Helper()
	got, where, wrong := markup.Parse(s)
	if wrong != e || where != at || len(got) > 0 {
		shown := s[max(0, min(len(s), at)-40):min(len(s), at+40)]
		t.Errorf("%d bytes, .. %q ..: %d nodes, %d, %d, not %d, %d", len(s), shown, len(got), where, wrong, at, e)
	}
}

// TestShort: P11.1, of all texts of a few bytes: once one is no beginning any more, whatever stands behind counts for nothing.
func TestShort(t *testing.T) {
	texts := 0
	var more func(s string, left int)
	more = func(s string, left int) {
		if isText(s) {
			texts++
			reads(t, s, treeOf(s))
		} else {
			fails(t, s, len(s), api.ErrSyntax)
		}
		for _, c := range `a-1#.[=]"{} %` {
			longer := s + string(c)
			if !begins(longer) {
				for _, rest := range []string{"", "a", "}", `"`, "\x00"} {
					fails(t, longer+rest, len(s), api.ErrSyntax)
				}
			} else if left > 1 {
				more(longer, left-1)
			}
		}
	}
	more("", 6)
	for _, s := range []string{"a{b", "a{b{", `a{"b"`, "a[b", `a[b="`, "a#b.c", "a{b}", "a.b#-"} {
		more(s, 4)
	}
	if texts < 500 {
		t.Errorf("only %d are texts of trees", texts)
	}
}

// TestNearlyRight: P11.1, of longer texts that are right but for a few bytes.
func TestNearlyRight(t *testing.T) {
	c := chance(5)
	right := 0
	for range 3000 {
		b := []byte(loose(&c, plainTree(&c)))
		for range c.below(3) {
			at := c.below(len(b) + 1)
			switch c.below(3) {
			case 0:
				b = b[:at]
			case 1:
				b = slices.Insert(b, at, `a-1#.[=]"{} %`[c.below(13)])
			default:
				b = slices.Delete(b, min(at, len(b)), min(at+1, len(b)))
			}
			if len(b) == 0 {
				break
			}
		}
		s := string(b)
		if isText(s) {
			right++
			reads(t, s, treeOf(s))
			continue
		}
		at := 0
		for at < len(s) && begins(s[:at+1]) {
			at++
		}
		fails(t, s, at, api.ErrSyntax)
	}
	if right < 500 || right > 2500 {
		t.Errorf("%d are right", right)
	}
}

// plainTree is a small tree whose texts are short, without ' and !.
func plainTree(c *chance) []api.Node {
	l := someTree(c, 1+c.below(5))
	short := func(s string) string { return strings.Trim(s[:min(len(s), 3)], "'") }
	for i := range l {
		n := &l[i]
		n.Tag, n.ID, n.Text = short(n.Tag), short(n.ID), short(n.Text)
		n.Classes, n.Attrs = n.Classes[:min(len(n.Classes), 2)], n.Attrs[:min(len(n.Attrs), 2)]
		for j := range n.Classes {
			n.Classes[j] = short(n.Classes[j])
		}
		for j := range n.Attrs {
			n.Attrs[j] = api.Attr{Name: short(n.Attrs[j].Name), Value: short(n.Attrs[j].Value)}
		}
	}
	return l
}

// loose is a text of a tree, written one way or another.
func loose(c *chance, l []api.Node) string {
	var b strings.Builder
	blanks := func() { b.WriteString(oneOf(c, "", "", " ", "\n", "\t\r\n  ")) }
	var put func(i int)
	put = func(i int) {
		n := l[i]
		if n.Tag == "" {
			b.WriteString(`"` + n.Text + `"`)
			return
		}
		b.WriteString(n.Tag)
		ids, classes, attrs := []string{n.ID}, n.Classes, n.Attrs
		for n.ID != "" && len(ids) > 0 || len(classes) > 0 || len(attrs) > 0 {
			switch k := c.below(3); {
			case k == 0 && n.ID != "" && len(ids) > 0:
				b.WriteString("#" + n.ID)
				ids = nil
			case k == 1 && len(classes) > 0:
				b.WriteString("." + classes[0])
				classes = classes[1:]
			case k == 2 && len(attrs) > 0:
				b.WriteString("[" + attrs[0].Name + `="` + attrs[0].Value + `"]`)
				attrs = attrs[1:]
			}
		}
		kids := tree.Kids(l, i)
		if len(kids) == 0 && c.below(2) == 0 {
			return
		}
		blanks()
		b.WriteByte('{')
		blanks()
		for k, kid := range kids {
			put(kid)
			// What would run into a further tag is parted from it.
			if k+1 < len(kids) && l[kid].Tag != "" && l[kids[k+1]].Tag != "" {
				b.WriteByte(" \n\r\t"[c.below(4)])
			}
			blanks()
		}
		b.WriteByte('}')
	}
	blanks()
	put(0)
	blanks()
	return b.String()
}

// TestLoose: P11.1, P11.4: however a tree is written, it is read as it is, and what is read and printed is read as the same.
func TestLoose(t *testing.T) {
	c := chance(11)
	for range 2000 {
		l := someTree(&c, oneOf(&c, 1, 2, 5, 12))
		s := loose(&c, l)
		if len(s) > api.MaxText {
			continue
		}
		reads(t, s, l)
		back, e := markup.Print(l)
		if e == api.ErrLong {
			continue
		}
		if e != api.OK {
			t.Fatal(e)
		}
		reads(t, back, l)
	}
}

// TestExamples: the chapter's examples, and others.
func TestExamples(t *testing.T) {
	reads(t, `a#b.c{d "x y"}`, []api.Node{{Parent: -1, Tag: "a", ID: "b", Classes: []string{"c"}}, element(0, "d"), words(0, "x y")})
	reads(t, "\r\n\ta.c#b[d=\"e\"].f \n{ \t}\r", []api.Node{{Parent: -1, Tag: "a", ID: "b", Classes: []string{"c", "f"}, Attrs: []api.Attr{{Name: "d", Value: "e"}}}})
	reads(t, `a{"b""c"d"e"f{}g{"h"}}`, []api.Node{element(-1, "a"), words(0, "b"), words(0, "c"), element(0, "d"), words(0, "e"), element(0, "f"), element(0, "g"), words(6, "h")})
	reads(t, `a{b {c} d}`, []api.Node{element(-1, "a"), element(0, "b"), element(1, "c"), element(0, "d")})
	reads(t, `-a.--#_[é=""]`, []api.Node{{Parent: -1, Tag: "-a", ID: "_", Classes: []string{"--"}, Attrs: []api.Attr{{Name: "é"}}}})
	reads(t, `a[b="c"][b="d"].e.e`, []api.Node{{Parent: -1, Tag: "a", Classes: []string{"e", "e"}, Attrs: []api.Attr{{Name: "b", Value: "c"}, {Name: "b", Value: "d"}}}})
	for _, c := range []struct {
		s  string
		at int
	}{
		{``, 0}, {" \n", 2}, {`a{`, 2}, {`a.b.{}`, 4}, {`"a"`, 0}, {`{}`, 0}, {`}`, 0}, {`1`, 0}, {`#a`, 0}, {`.a`, 0}, {`a b`, 2}, {`a{} b`, 4}, {`a{}{}`, 3}, {`a}`, 1}, {`a{b}}`, 4}, {`a{{}}`, 2}, {`a{"b"{}}`, 5}, {`a{"b".c}`, 5},
		{`-`, 1}, {`-1`, 1}, {`- a`, 1}, {`a{-}`, 3}, {`a.-`, 3}, {`a.-1`, 3}, {`a#1`, 2}, {`a# b`, 2}, {`a. b`, 2}, {`a .b`, 2}, {`a #b`, 2}, {`a [b="c"]`, 2}, {`a:b`, 1}, {`a/**/`, 1}, {"a\f", 1}, {"\va", 0}, {"a{\x00}", 2}, {"a{\f}", 2},
		{`a[`, 2}, {`a[]`, 2}, {`a[ b="c"]`, 2}, {`a[b]`, 3}, {`a[b ="c"]`, 3}, {`a[b=]`, 4}, {`a[b= "c"]`, 4}, {`a[b=c]`, 4}, {`a[b='c']`, 4}, {`a[b="c"`, 7}, {`a[b="c" ]`, 7}, {`a[b="c]`, 7}, {`a[b="c`, 6}, {"a[b=\"c\n\"]", 6}, {`a["b"]`, 2},
		{`a{"`, 3}, {`a{"b`, 4}, {"a{\"b\nc\"}", 4}, {"a{\"\t\"}", 3}, {`a{"b"`, 5}, {`a{b`, 3}, {`a{b{c}`, 6}, {`a{'b'}`, 2}, {`a{b,c}`, 3},
		{`a#b#c`, 3}, {`a#b.c#b`, 5}, {`a#b[c="d"]#e{}`, 10}, {`a#b#`, 3}, {`a#b#1`, 3}, {`a{b#c#d}`, 5},
	} {
		fails(t, c.s, c.at, api.ErrSyntax)
	}
}

// TestBytes: P11.1: which bytes may stand where, of all bytes.
func TestBytes(t *testing.T) {
	const letters = "abcdefghijklmnopqrstuvwxyzABCDEFGHIJKLMNOPQRSTUVWXYZ_"
	const blanks, inName = "\t\n\r ", letters + "0123456789-"
	var high, all []byte
	for i := range 256 {
		if i >= 128 {
			high = append(high, byte(i))
		}
		if i >= 32 {
			all = append(all, byte(i))
		}
	}
	for _, c := range []struct{ s, may string }{
		{"", letters + "-" + blanks}, {"-", letters + "-"}, {"a", inName + blanks + "#.[{"}, {"a#b", inName + blanks + ".[{"}, {"a.b", inName + blanks + "#.[{"}, {"a ", blanks + "{"},
		{"a#", letters + "-"}, {"a.", letters + "-"}, {"a[", letters + "-"}, {"a[-", letters + "-"}, {"a[b", inName + "="}, {"a[b=", "\""}, {"a[b=\"c\"", "]"}, {"a[b=\"c\"]", blanks + "#.[{"},
		{"a{", blanks + letters + "-}\""}, {"a{b", inName + blanks + "#.[{}\""}, {"a{b ", blanks + letters + "-{}\""}, {"a{\"b\"", blanks + letters + "-}\""}, {"a{}", blanks}, {"a{b{}", blanks + letters + "-}\""},
	} {
		may := c.may
		if strings.Contains(may, letters) {
			may += string(high)
		}
		bytes(t, c.s, may)
	}
	for _, s := range []string{"a{\"", "a{\"b", "a[b=\"", "a[b=\"c"} {
		bytes(t, s, string(all))
	}
}

// bytes fails if just those bytes that may do not stand behind a text.
func bytes(t *testing.T, s, may string) {
	t.Helper()
	for i := range 256 {
		longer := s + string([]byte{byte(i)})
		// What may not stand ends no text.
		_, at, e := markup.Parse(longer + "\x00")
		if want := len(s) + min(1, strings.Count(may, longer[len(s):])); at != want || e != api.ErrSyntax {
			t.Errorf("%q: %d, %d, not %d", longer, at, e, want)
		}
	}
}

// TestNames: P11.1: how long names may be.
func TestNames(t *testing.T) {
	for _, name := range []string{strings.Repeat("n", 32), "-" + strings.Repeat("n", 31), strings.Repeat("\x80", 32), "n" + strings.Repeat("-", 31)} {
		more := name + "1"
		for _, c := range [][2]string{{"", ""}, {" ", "{}"}, {"a{", "}"}, {"a{b ", " c}"}, {`a{"b"`, `"c"}`}} {
			if e := read(c[0] + name + c[1]); e != api.OK {
				t.Errorf("%q: %d", c, e)
			}
			fails(t, c[0]+more+c[1], len(c[0]), api.ErrSyntax)
			fails(t, c[0]+more+"%", len(c[0]), api.ErrSyntax)
			fails(t, c[0]+more, len(c[0]), api.ErrSyntax)
			fails(t, c[0]+more+strings.Repeat("2", 1000), len(c[0]), api.ErrSyntax)
		}
		for _, head := range []string{"a#", "a.", "a#b.", "a.b#", "a.b.", "a[b=\"c\"].", "a{b."} {
			tail := strings.Repeat("}", strings.Count(head, "{"))
			if e := read(head + name + tail); e != api.OK {
				t.Errorf("%q: %d", head, e)
			}
			fails(t, head+more+tail, len(head), api.ErrSyntax)
			fails(t, head+more+"%", len(head), api.ErrSyntax)
		}
		for _, head := range []string{"a[", "a.b[", `a[b="c"][`} {
			if e := read(head + name + `=""]`); e != api.OK {
				t.Errorf("%q: %d", head, e)
			}
			fails(t, head+more+`=""]`, len(head), api.ErrSyntax)
			fails(t, head+more+"]", len(head), api.ErrSyntax)
		}
	}
}

// read is the error that a text is answered.
func read(s string) api.Errno {
	_, _, e := markup.Parse(s)
	return e
}

// TestWords: P11.1: how long words may be; those that do not end have no length.
func TestWords(t *testing.T) {
	for _, c := range [][2]string{{"a{", "}"}, {"a{b", "}"}, {`a{"b"`, " c}"}, {"a[b=", "]"}, {`a[b="c"][d=`, "]{}"}, {"a{b.c[d=", "]}"}} {
		for _, fill := range []string{"w", " ", "\xff", "}"} {
			full := strings.Repeat(fill, 256)
			if e := read(c[0] + `"` + full + `"` + c[1]); e != api.OK {
				t.Errorf("%q: %d", c, e)
			}
			for _, rest := range []string{c[1], "", "%", `"`} {
				fails(t, c[0]+`"`+full+fill+`"`+rest, len(c[0]), api.ErrSyntax)
				fails(t, c[0]+`"`+strings.Repeat(full, 9)+`"`+rest, len(c[0]), api.ErrSyntax)
			}
			open := c[0] + `"` + strings.Repeat(full, 9)
			fails(t, open, len(open), api.ErrSyntax)
			fails(t, open+"\n"+`"`+c[1], len(open), api.ErrSyntax)
		}
	}
}

// TestMarks: P11.1: how many classes and attributes there may be; one too many is found at its sign, whatever stands behind that.
func TestMarks(t *testing.T) {
	for _, c := range []struct{ mark, other string }{{".c", `[a="b"]`}, {`[a="b"]`, ".c"}} {
		for _, head := range []string{"a", "a#b", "a" + c.other, "a" + strings.Repeat(c.other, 8), "a{b"} {
			tail := strings.Repeat("}", strings.Count(head, "{"))
			for n := range 12 {
				s := head + strings.Repeat(c.mark, min(n, 8))
				if n <= 8 {
					if e := read(s + tail); e != api.OK {
						t.Errorf("%q: %d", s, e)
					}
					continue
				}
				for _, rest := range []string{c.mark + tail, c.mark[:1], c.mark[:1] + "{", c.mark[:1] + strings.Repeat("n", 33), c.mark + c.mark} {
					fails(t, s+rest, len(s), api.ErrSyntax)
				}
			}
		}
		// Of one kind only so many, of both together twice as many.
		if e := read("a" + strings.Repeat(c.mark+c.other, 8) + "#b{}"); e != api.OK {
			t.Error(e)
		}
	}
}

// TestNodes: P11.1: how many nodes there may be.
func TestNodes(t *testing.T) {
	for _, node := range []string{"b ", `"b"`, "b{}", `b.c[d="e"] `} {
		full := "a{" + strings.Repeat(node, 1023)
		if e := read(full + "}"); e != api.OK {
			t.Errorf("%q: %d", node, e)
		}
		for _, more := range []string{"c", `"c"`, "c.d", "-c", `""`, "c.", "c{{", `"c`, "-1", "c#d#e"} {
			fails(t, full+more+"}", len(full), api.ErrNodes)
			fails(t, full+" "+more, len(full)+1, api.ErrNodes)
		}
		// What begins no node is no node too many, and what is wrong ahead comes first.
		fails(t, full+"%", len(full), api.ErrSyntax)
		fails(t, full, len(full), api.ErrSyntax)
		fails(t, full+"}c", len(full)+1, api.ErrSyntax)
		fails(t, "a{b..c "+strings.Repeat(node, 1100)+"}", 4, api.ErrSyntax)
	}
	deep := strings.Repeat("a{", 63) + strings.Repeat(`""`, 1024-63)
	if l, _, e := markup.Parse(deep + strings.Repeat("}", 63)); e != api.OK || len(l) != 1024 {
		t.Error(len(l), e)
	}
	fails(t, deep+`""`, len(deep), api.ErrNodes)
	// There is no room for a node, whatever its name is, or its words are, behind its first byte.
	fails(t, deep+strings.Repeat("n", 33), len(deep), api.ErrNodes)
	fails(t, deep+`"`+strings.Repeat("n", 257)+`"`, len(deep), api.ErrNodes)
}

// TestDepth: P11.1: how deep nodes may stand.
func TestDepth(t *testing.T) {
	full := strings.Repeat("a{", 64)
	for _, s := range []string{full, full + " ", strings.Repeat("a{", 63) + "b", strings.Repeat("a {\n", 63) + `"b"c{ }`} {
		l, _, e := markup.Parse(s + strings.Repeat("}", strings.Count(s, "{")-strings.Count(s, "}")))
		if e != api.OK || tree.Depth(l, len(l)-1) != 64 {
			t.Errorf("%q: %d nodes, %d", s, len(l), e)
		}
	}
	for _, more := range []string{"b", `"b"`, "b.", `"b`, "-", "b#c#d", strings.Repeat("n", 33)} {
		fails(t, full+more, len(full), api.ErrDepth)
		fails(t, full+" \n"+more+strings.Repeat("}", 64), len(full)+2, api.ErrDepth)
		fails(t, full+"}"+full[:2]+more, len(full)+3, api.ErrDepth)
	}
	fails(t, full, len(full), api.ErrSyntax)
	fails(t, full+"%", len(full), api.ErrSyntax)
	fails(t, full+"{", len(full), api.ErrSyntax)
	// Beside one another there may be many.
	s := strings.Repeat("a{", 62) + strings.Repeat("b{c}", 400) + strings.Repeat("}", 62)
	if e := read(s); e != api.OK {
		t.Error(e)
	}
	// Too many are told ahead of too deep; what comes first is told first.
	many := "a{" + strings.Repeat(`""`, 1024-64) + strings.Repeat("a{", 63)
	fails(t, many+"b", len(many), api.ErrNodes)
	fails(t, many+`"b"`, len(many), api.ErrNodes)
	fails(t, many[:len(many)-2]+"b b", len(many), api.ErrNodes)
	fails(t, full+"b"+strings.Repeat(" c", 1200), len(full), api.ErrDepth)
}

// TestLong: P11.1: how long a text may be; of one that is too long nothing else is told.
func TestLong(t *testing.T) {
	full := "a{" + strings.Repeat(" ", api.MaxText-3) + "}"
	if e := read(full); e != api.OK || len(full) != 1<<15 {
		t.Error(e)
	}
	for _, s := range []string{full + " ", full + "%", " " + full, "%" + full, strings.Repeat("a{", 1<<15), strings.Repeat("\x00", 1<<20)} {
		fails(t, s, 0, api.ErrLong)
	}
	fails(t, full[:len(full)-1]+" ", api.MaxText, api.ErrSyntax)
	fails(t, strings.Repeat(" ", api.MaxText), api.MaxText, api.ErrSyntax)
}
