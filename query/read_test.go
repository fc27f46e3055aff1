package query_test

import (
	"regexp"
	"slices"
	"strings"
	"testing"

	"wainscot/api"
	"wainscot/lex"
	"wainscot/query"
	"wainscot/syntax"
	"wainscot/tree"
)

func ident(s string) api.Token { return api.Token{Kind: api.Ident, Text: s} }
func delim(s string) api.Token { return api.Token{Kind: api.Delim, Text: s} }
func sign(kind int) api.Token  { return api.Token{Kind: kind} }
func num(n int) api.Token      { return api.Token{Kind: api.Num, N: n} }
func px(n int) api.Token       { return api.Token{Kind: api.Dim, Text: "px", N: n} }

// alphabet has tokens of every kind at which something may change.
func alphabet() []api.Token {
	return []api.Token{
		ident("not"), ident("and"), ident("or"), ident("width"), ident("min-height"), ident("aspect-ratio"), ident("orientation"), ident("portrait"), ident(""), ident("a"),
		sign(api.Open), sign(api.Close), sign(api.Colon), sign(api.Space), delim("<"), delim("="), delim(">"), delim("/"), px(5), num(0), num(3000), {Kind: api.Func, Text: "and"}, sign(api.OpenSq),
	}
}

// lists hands over all lists of up to n tokens of some.
func lists(some []api.Token, n int, take func(l []api.Token)) {
	var more func(l []api.Token)
	more = func(l []api.Token) {
		take(l)
		for i := 0; i < len(some) && len(l) < n; i++ {
			more(append(l[:len(l):len(l)], some[i]))
		}
	}
	more(nil)
}

// letter answers a byte for a token: w, r and o for words, m and n for words with a min- or max- ahead.
func letter(k api.Token) byte {
	switch k.Kind {
	case api.Ident:
		return letterOfWord(k.Text)
	case api.Dim:
		if k.Text == "px" {
			return 'd'
		}
	case api.Num:
		if k.N <= 0 {
			return "-0"[max(k.N, -1)+1]
		}
		return '5'
	case api.Delim:
		if slices.Contains([]string{"<", "=", ">", "/"}, k.Text) {
			return k.Text[0]
		}
	case api.Colon:
		return ':'
	case api.Space:
		return ' '
	}
	return 'x'
}

func letterOfWord(s string) byte {
	rest, led := s, 0
	for _, head := range []string{"min-", "max-"} {
		if more, is := strings.CutPrefix(s, head); is {
			rest, led = more, 1
		}
	}
	switch rest {
	case "width", "height", "inline-size", "block-size":
		return "wm"[led]
	case "aspect-ratio":
		return "rn"[led]
	case "orientation":
		return "ox"[led]
	case "portrait", "landscape":
		return "px"[led]
	}
	return 'x'
}

const (
	opForm     = `(<=?|=|>=?)`
	lengthForm = `([d0])`
	ratioForm  = `(5(?: */ *5)?)`
)

// The forms of a feature.
var (
	aloneForm  = regexp.MustCompile(`^([wro])$`)
	colonForm  = regexp.MustCompile(`^(?:([wm]) *: *` + lengthForm + `|([rn]) *: *` + ratioForm + `|(o) *: *(p))$`)
	behindForm = regexp.MustCompile(`^(?:(w) *` + opForm + ` *` + lengthForm + `|(r) *` + opForm + ` *` + ratioForm + `)$`)
	aheadForm  = regexp.MustCompile(`^(?:` + lengthForm + ` *` + opForm + ` *(w)|` + ratioForm + ` *` + opForm + ` *(r))$`)
	bothForm   = regexp.MustCompile(`^(?:` + lengthForm + ` *` + opForm + ` *(w) *` + opForm + ` *` + lengthForm + `|` + ratioForm + ` *` + opForm + ` *(r) *` + opForm + ` *` + ratioForm + `)$`)
)

// found answers the pieces that the groups of a form fit, nil, if the form does not fit.
func found(form *regexp.Regexp, l []api.Token) [][]api.Token {
	var s []byte
	for _, k := range l {
		s = append(s, letter(k))
	}
	m := form.FindSubmatchIndex(s)
	var pieces [][]api.Token
	for i := 2; i < len(m); i += 2 {
		if m[i] >= 0 {
			pieces = append(pieces, l[m[i]:m[i+1]])
		}
	}
	return pieces
}

// boundOf is the bound of an Op and a value.
func boundOf(op int, value []api.Token) api.Bound {
	b := api.Bound{Op: op, N: value[0].N}
	switch {
	case value[0].Kind == api.Ident:
		b.N = 1 + slices.Index([]string{"portrait", "landscape"}, value[0].Text)
	case len(value) > 1:
		b.D = value[len(value)-1].N
	case value[0].Kind == api.Num && value[0].N > 0:
		b.D = 1000
	}
	return b
}

// opOf is the Op that some Delims are.
func opOf(l []api.Token) int {
	s := ""
	for _, k := range l {
		s += k.Text
	}
	return 1 + slices.Index([]string{"<", "<=", "=", ">=", ">"}, s)
}

// featureOf is the feature that a piece is, by the chapter's words.
func featureOf(l []api.Token) (api.QNode, bool) {
	named := func(word []api.Token) int {
		s := strings.TrimPrefix(strings.TrimPrefix(word[0].Text, "min-"), "max-")
		return 1 + slices.Index([]string{"width", "height", "inline-size", "block-size", "aspect-ratio", "orientation"}, s)
	}
	if m := found(aloneForm, l); m != nil {
		return feature(named(m[0])), true
	}
	if m := found(colonForm, l); m != nil {
		op := map[string]int{"min-": 4, "max-": 2}[m[0][0].Text[:4]]
		if op == 0 {
			op = 3
		}
		return ask(named(m[0]), boundOf(op, m[1])), true
	}
	if m := found(behindForm, l); m != nil {
		return ask(named(m[0]), boundOf(opOf(m[1]), m[2])), true
	}
	if m := found(aheadForm, l); m != nil {
		turned := []int{5, 4, 3, 2, 1}[opOf(m[1])-1]
		return ask(named(m[2]), boundOf(turned, m[0])), true
	}
	if m := found(bothForm, l); m != nil {
		return ask(named(m[2]), boundOf(opOf(m[1]), m[0]), boundOf(opOf(m[3]), m[4])), true
	}
	return api.QNode{}, false
}

// termOf is the term that a list is.
func termOf(l []api.Token) ([]api.QNode, bool) {
	l = syntax.Trim(l)
	if len(l) < 2 || l[0].Kind != api.Open || syntax.Match(l, 0) != len(l)-1 {
		return nil, false
	}
	l = l[1 : len(l)-1]
	if n, ok := featureOf(syntax.Trim(l)); ok {
		return []api.QNode{n}, true
	}
	return conditionOf(l)
}

// conditionOf is the condition that a list is.
func conditionOf(l []api.Token) ([]api.QNode, bool) {
	l = syntax.Trim(l)
	if len(l) > 0 && l[0].Kind == api.Ident && l[0].Text == "not" {
		has, ok := termOf(l[1:])
		return append([]api.QNode{node(api.Not, 1)}, has...), ok
	}
	for kind, word := range []string{1: "and", "or"} {
		pieces := parted(l, word)
		if word == "" || len(pieces) == 1 {
			continue
		}
		nodes := []api.QNode{node(kind, len(pieces))}
		for _, piece := range pieces {
			has, ok := termOf(piece)
			if !ok {
				return nil, false
			}
			nodes = append(nodes, has...)
		}
		return nodes, true
	}
	return termOf(l)
}

// parted answers the pieces between the Idents of a word at the top.
func parted(l []api.Token, word string) [][]api.Token {
	for i := 0; i < len(l); i = syntax.Match(l, i) + 1 {
		if l[i].Kind == api.Ident && l[i].Text == word {
			return append([][]api.Token{l[:i]}, parted(l[i+1:], word)...)
		}
	}
	return [][]api.Token{l}
}

// parseOf is Parse by the chapter's words.
func parseOf(l []api.Token) (api.Query, api.Errno) {
	l = syntax.Trim(l)
	var q api.Query
	if len(l) > 0 && l[0].Kind == api.Ident && !slices.Contains([]string{"and", "or", "not", "none"}, l[0].Text) && (l[0].Text == "" || tree.Name(l[0].Text)) {
		q.Name, l = l[0].Text, l[1:]
	}
	var ok bool
	q.Nodes, ok = conditionOf(l)
	if !ok || !rightOf(q) {
		return api.Query{}, api.ErrQuery
	}
	return q, api.OK
}

// reckoned fails if Parse of a list is not as the chapter's words say; it tells whether it was read.
func reckoned(t *testing.T, l []api.Token) bool {
	t.Helper()
	got, e := query.Parse(l)
	want, e2 := parseOf(l)
	if e != e2 || !query.Same(got, want) {
		t.Fatalf("%v: %v, %d, not %v, %d", l, got, e, want, e2)
	}
	return e == api.OK
}

// TestExamples: the chapter's own.
func TestExamples(t *testing.T) {
	q, e := query.Parse(cut(t, "card (width > 400px) and (not (height))"))
	want := api.Query{Name: "card", Nodes: []api.QNode{node(api.And, 2), ask(api.Width, bound(api.Greater, 400000, 0)), node(api.Not, 1), feature(api.Height)}}
	if e != api.OK || !query.Same(q, want) {
		t.Error(q, e)
	}
	q, e = query.Parse(cut(t, "(400px < width)"))
	l, e2 := query.Print(q)
	if e != api.OK || e2 != api.OK || !slices.Equal(l, cut(t, "(width > 400px)")) {
		t.Error(q, e, l, e2)
	}
}

// TestParseFeatures: P8.2 and P8.3 of one feature.
func TestParseFeatures(t *testing.T) {
	const k = 1000
	for s, want := range map[string]api.QNode{
		// A word alone.
		"width": feature(1), " height ": feature(2), "inline-size": feature(3), "block-size": feature(4), "aspect-ratio": feature(5), "orientation": feature(6),
		// Colon.
		"width:5px": ask(1, bound(3, 5*k, 0)), " height : 1.5px ": ask(2, bound(3, 1500, 0)), "inline-size: 0": ask(3, bound(3, 0, 0)), "block-size:-2px": ask(4, bound(3, -2*k, 0)), "width:+0.000": ask(1, bound(3, 0, 0)), "aspect-ratio:16/9": ask(5, bound(3, 16*k, 9*k)), "aspect-ratio : 16 / 9": ask(5, bound(3, 16*k, 9*k)), "aspect-ratio:2": ask(5, bound(3, 2*k, k)), "aspect-ratio:.5": ask(5, bound(3, 500, k)),
		"orientation:portrait": ask(6, bound(3, 1, 0)), "orientation : landscape": ask(6, bound(3, 2, 0)),
		// min- and max-.
		"min-width:5px": ask(1, bound(4, 5*k, 0)), "max-width: 5px": ask(1, bound(2, 5*k, 0)), "min-height :0": ask(2, bound(4, 0, 0)), "max-inline-size:1px": ask(3, bound(2, k, 0)), "min-block-size:1px": ask(4, bound(4, k, 0)), "min-aspect-ratio:4/3": ask(5, bound(4, 4*k, 3*k)), "max-aspect-ratio:1": ask(5, bound(2, k, k)),
		// A word ahead.
		"width<5px": ask(1, bound(1, 5*k, 0)), "width <= 5px": ask(1, bound(2, 5*k, 0)), "width =5px": ask(1, bound(3, 5*k, 0)), "width>= 5px": ask(1, bound(4, 5*k, 0)), "width>5px": ask(1, bound(5, 5*k, 0)), "height > 0": ask(2, bound(5, 0, 0)), "aspect-ratio>=16 /9": ask(5, bound(4, 16*k, 9*k)), "aspect-ratio<1": ask(5, bound(1, k, k)), "width>-5px": ask(1, bound(5, -5*k, 0)),
		// A value ahead.
		"5px<width": ask(1, bound(5, 5*k, 0)), "5px <= width": ask(1, bound(4, 5*k, 0)), "5px=width": ask(1, bound(3, 5*k, 0)), "5px>=width": ask(1, bound(2, 5*k, 0)), "5px >width": ask(1, bound(1, 5*k, 0)), "0<block-size": ask(4, bound(5, 0, 0)), "16/9 > aspect-ratio": ask(5, bound(1, 16*k, 9*k)), "2<=aspect-ratio": ask(5, bound(4, 2*k, k)),
		// On both sides.
		"1px<width<5px": ask(1, bound(1, k, 0), bound(1, 5*k, 0)), "1px <= width < 5px": ask(1, bound(2, k, 0), bound(1, 5*k, 0)), "1px<width<=5px": ask(1, bound(1, k, 0), bound(2, 5*k, 0)), "5px>=height>0": ask(2, bound(4, 5*k, 0), bound(5, 0, 0)), "5px > width > 1px": ask(1, bound(5, 5*k, 0), bound(5, k, 0)), "5px<width<1px": ask(1, bound(1, 5*k, 0), bound(1, k, 0)), "1 < aspect-ratio <= 16/9": ask(5, bound(1, k, k), bound(2, 16*k, 9*k)), "16/9>aspect-ratio>=.1/ 1": ask(5, bound(5, 16*k, 9*k), bound(4, 100, k)), "0<width<0": ask(1, bound(1, 0, 0), bound(1, 0, 0)),
	} {
		for _, list := range []string{"(" + s + ")", "((" + s + "))", " ( ( (" + s + " ) ) ) "} {
			if got, e := query.Parse(cut(t, list)); e != api.OK || !query.Same(got, of(want)) {
				t.Errorf("%q: %v, %d, not %v", list, got, e, want)
			}
			reckoned(t, cut(t, list))
		}
	}
}

// TestParseConditions: P8.2 and P8.3 of what features are joined to.
func TestParseConditions(t *testing.T) {
	w, h, b := feature(1), feature(2), feature(4)
	for s, want := range map[string][]api.QNode{
		"(width)": {w}, "((width))": {w}, "not (width)": {node(3, 1), w}, "not/**/(width)": {node(3, 1), w}, "( not (width) )": {node(3, 1), w}, "not (not (width))": {node(3, 1), node(3, 1), w}, "not ((not ((width))))": {node(3, 1), node(3, 1), w},
		"(width) and (height)": {node(1, 2), w, h}, "(width) or (height)": {node(2, 2), w, h}, "(width)and/**/(height)": {node(1, 2), w, h}, "(width)or (height)or (width)": {node(2, 3), w, h, w}, "((width) and (height))": {node(1, 2), w, h}, "((width)) and ((height))": {node(1, 2), w, h}, "(width) and (height) and (width) and (block-size)": {node(1, 4), w, h, w, b},
		// A term in brackets is what it has, and stays one.
		"((width) and (height)) and (block-size)": {node(1, 2), node(1, 2), w, h, b}, "(width) and ((height) and (block-size))": {node(1, 2), w, node(1, 2), h, b}, "((width) or (height)) and (block-size)": {node(1, 2), node(2, 2), w, h, b}, "(width) or ((height) and (block-size)) or (height)": {node(2, 3), w, node(1, 2), h, b, h},
		"(not (width)) and (height)": {node(1, 2), node(3, 1), w, h}, "(width) and (not (height))": {node(1, 2), w, node(3, 1), h}, "not ((width) or (height))": {node(3, 1), node(2, 2), w, h}, "((not (width)) or (not (height))) and (not ((block-size) and (width)))": {node(1, 2), node(2, 2), node(3, 1), w, node(3, 1), h, node(3, 1), node(1, 2), b, w},
		"(((width) and (height)) or (height)) and (((block-size)))": {node(1, 2), node(2, 2), node(1, 2), w, h, h, b},
	} {
		for _, name := range []string{"", "card", "width", "AND", "--"} {
			if got, e := query.Parse(cut(t, name+" "+s)); e != api.OK || !query.Same(got, api.Query{Name: name, Nodes: want}) {
				t.Errorf("%q of %q: %v, %d, not %v", s, name, got, e, want)
			}
			reckoned(t, cut(t, name+" "+s))
		}
	}
	if q, e := query.Parse(cut(t, "card/**/(width)")); e != api.OK || !query.Same(q, api.Query{Name: "card", Nodes: []api.QNode{w}}) {
		t.Error(q, e)
	}
}

// TestParseWrong: P8.2 and P8.3: what is no query.
func TestParseWrong(t *testing.T) {
	long := strings.Repeat("a", api.MaxName+1)
	// (A name and a bracket that it touches are one token, a Func.)
	for _, s := range []string{
		"", " ", "/**/", "card", "card ", "width", "()", "( )", "(())", "(", ")", "((width)", "(width", "(width))", ")(width)", "(width)(height)", "(width) (height)", "[width]", "{width}", "[(width)]", "f(width)", "card(width)", "(width]", "(width[)])", "(f(width))", "(width),(height)", "(width);",
		// Names.
		"card card (width)", "1 (width)", "'a' (width)", "#a (width)", "@a (width)", "- (width)", "none (width)", "none", "and (width)", "or (width)", long + " (width)", "(card (width))", "(width) card", "a, (width)",
		// Conditions.
		"not", "not not (width)", "not width", "not (width) and (height)", "not (width) or (height)", "(width) and not (height)", "(width) not (height)", "(width) and", "(width) or", "(width) and (height) and", "and", "(width) and and (height)", "(width) and (height) or (block-size)", "(width) or (height) and (block-size)", "(width) AND (height)", "(Not (width))", "(width) xor (height)", "(width) and height", "(width and height)", "(not width)", "(not)", "((width) and)", "(and (width))", "((width) (height))", "(width)and(height)", "not(width)", "not (width) (height)", "(not (width) and (height))", "(width) 'and' (height)", "card not", "card and (width)", "card not not (width)",
		// Words.
		"(Width)", "(widths)", "(size)", "('width')", "(#width)", "(5px)", "(not (5px))", "(width height)", "(width width)", "(a)", "(px)", "(min-width)", "(max-height)", "(min-orientation)", "(min-)", "(min-min-width:5px)", "(min-max-width:5px)", "(-width:5px)", "(min-size:5px)", "(min- width:5px)",
		// Colon.
		"(width:)", "(:5px)", "(width::5px)", "(width:5)", "(width:5em)", "(width:5%)", "(width:5PX)", "(width:1px 2px)", "(width:1px,2px)", "(width:1/2)", "(width:0/1)", "(width:px)", "(width:auto)", "(width:portrait)", "(width:'5px')", "(width:(5px))", "(5px:width)", "(width:5px:5px)", "(width:5px>1px)", "(1px<width:5px)", "(width:<5px)", "(min-width>5px)", "(5px<min-width)", "(1px<max-width<5px)", "(min-width=5px)", "(min-orientation:portrait)", "(max-orientation:landscape)",
		// Ratios.
		"(aspect-ratio:0)", "(aspect-ratio:-1)", "(aspect-ratio:0/1)", "(aspect-ratio:1/0)", "(aspect-ratio:-1/-1)", "(aspect-ratio:1/)", "(aspect-ratio:/1)", "(aspect-ratio:1//1)", "(aspect-ratio:1/1/1)", "(aspect-ratio:1 1)", "(aspect-ratio:1px)", "(aspect-ratio:1px/1px)", "(aspect-ratio:1/1px)", "(aspect-ratio:50%)", "(aspect-ratio:portrait)", "(aspect-ratio>0)", "(0<aspect-ratio)", "(1/0<aspect-ratio)", "(1<aspect-ratio<0)", "(aspect-ratio:.0004)",
		// Orientation takes a word or a Colon.
		"(orientation:)", "(orientation:Portrait)", "(orientation:portraits)", "(orientation:1)", "(orientation:5px)", "(orientation:'portrait')", "(orientation=portrait)", "(orientation<portrait)", "(portrait=orientation)", "(portrait:orientation)", "(portrait)", "(orientation:portrait landscape)", "(0<orientation)", "(1px=orientation)", "(1px<orientation<2px)", "(orientation>0)", "(orientation>=landscape)", "(portrait<=orientation<=landscape)",
		// Comparisons.
		"(width<)", "(<5px)", "(<width)", "(width 5px)", "(width 0)", "(5px width)", "(0 width)", "(0 width 0)", "(0<width 0)", "(0 width<0)", "(5px<)", "(width< =5px)", "(width> =5px)", "(width=<5px)", "(width=>5px)", "(width==5px)", "(width<<5px)", "(width<>5px)", "(width<==5px)", "(width!5px)", "(width!=5px)", "(width~5px)", "(5px< =width)", "(5px=<width)", "(5px<5px)", "(5px<5px<width)", "(width<width)", "(width<5px<width)", "(width<1px<2px)", "(1px<width<2px<3px)", "(width>5)", "(5<width)", "(5em<width)", "(width>5em)", "(width>1/2)", "(1/2<width)", "(width>5px 5px)", "(1px 1px<width)", "(width<min-width)", "(width>height)", "(5px<a)", "(5px<Width)",
		// Two bounds that do not go one way, and two with an Equals.
		"(1px<width>5px)", "(1px>width<5px)", "(1px<=width>=5px)", "(1px>=width<=5px)", "(1px<=width>5px)", "(1px=width=1px)", "(1px=width<5px)", "(1px<width=5px)", "(1px=width<=1px)", "(1px>=width=1px)", "(1<aspect-ratio>2)", "(1=aspect-ratio=1)",
	} {
		around := []string{s, " " + s + " ", "a " + s}
		if s != "width" {
			around = append(around, "("+s+")", "("+s+") and (width)", "(width) or ("+s+")", "not ("+s+")")
		}
		for _, list := range around {
			if got, e := query.Parse(cut(t, list)); e != api.ErrQuery || got.Name != "" || len(got.Nodes) != 0 {
				t.Errorf("%q: %v, %d", list, got, e)
			}
		}
		reckoned(t, cut(t, s))
	}
	for _, l := range [][]api.Token{nil, {}, {sign(api.Space)}} {
		if got, e := query.Parse(l); e != api.ErrQuery || got.Name != "" || len(got.Nodes) != 0 {
			t.Errorf("%v: %v, %d", l, got, e)
		}
	}
}

// TestParseMost: P8.2 and P8.3: just so many nodes are allowed, and names and lengths just so long.
func TestParseMost(t *testing.T) {
	long := strings.Repeat("a", api.MaxName)
	joined := func(n int) string { return "(width)" + strings.Repeat(" and (width)", n-1) }
	negated := func(n int) string { return strings.Repeat("not (", n) + "height" + strings.Repeat(")", n) }
	for s, want := range map[string]bool{
		joined(31): true, joined(32): false, joined(33): false, negated(31): true, negated(32): false, negated(33): false, "(" + joined(31) + ")": true, "not (" + joined(30) + ")": true, "not (" + joined(31) + ")": false,
		"(" + joined(31) + ") or (height)": false, "(" + joined(29) + ") or (height)": true, "(" + joined(15) + ") or (" + joined(14) + ")": true, "(" + joined(15) + ") or (" + joined(15) + ")": false, joined(1000): false, negated(1000): false,
		long + " (width)": true, "(width<1048576px)": true, "(width<16777216px)": true, "(width>-16777216px)": true, "(aspect-ratio:1048576/.001)": true, "(aspect-ratio:1073741.824)": true, "(aspect-ratio:99999999)": true, "(aspect-ratio:.001/99999999)": true,
		strings.Repeat("(", 10000) + "width" + strings.Repeat(")", 10000): true, strings.Repeat("(", 10000) + "width" + strings.Repeat(")", 9999): false, strings.Repeat("(", 10000) + "width" + strings.Repeat(")", 10001): false,
	} {
		if _, e := query.Parse(cut(t, s)); (e == api.OK) != want {
			t.Errorf("%.40q: %d", s, e)
		}
	}
}

// TestParseDeep: P1 and P8.3: no depth of brackets is too much, and what they have does not hang on them.
func TestParseDeep(t *testing.T) {
	const n = 1 << 16
	opens, closes := slices.Repeat([]api.Token{sign(api.Open)}, n), slices.Repeat([]api.Token{sign(api.Close)}, n)
	for s, want := range map[string]api.Query{
		"width": of(feature(1)), "not (width)": of(node(3, 1), feature(1)), "(width) or (height)": of(node(2, 2), feature(1), feature(2)),
	} {
		if got, e := query.Parse(slices.Concat(opens, cut(t, s), closes)); e != api.OK || !query.Same(got, want) {
			t.Errorf("%q: %v, %d", s, got, e)
		}
	}
	q := slices.Concat(opens, cut(t, "width"), closes, cut(t, " and "), opens, cut(t, "height"), closes)
	if got, e := query.Parse(q); e != api.OK || !query.Same(got, of(node(1, 2), feature(1), feature(2))) {
		t.Error(got, e)
	}
}

// TestParseMade: P8.2 of tokens that no text is cut into.
func TestParseMade(t *testing.T) {
	in := func(l ...api.Token) []api.Token {
		return slices.Concat([]api.Token{sign(api.Open)}, l, []api.Token{sign(api.Close)})
	}
	w := ident("width")
	and, not := api.Token{Kind: api.Ident, Text: "and", N: 5}, api.Token{Kind: api.Ident, Text: "not", N: 5}
	for _, c := range []struct {
		l    []api.Token
		want []api.QNode
	}{
		// An Ident without a text stands where a name does, and is none.
		{append([]api.Token{ident("")}, in(w)...), []api.QNode{feature(1)}}, {append([]api.Token{sign(api.Space), ident(""), sign(api.Space)}, in(w)...), []api.QNode{feature(1)}}, {append([]api.Token{ident(""), not}, in(w)...), []api.QNode{node(3, 1), feature(1)}},
		{append([]api.Token{ident(""), ident("")}, in(w)...), nil}, {append([]api.Token{ident(""), ident("a")}, in(w)...), nil}, {[]api.Token{ident("")}, nil}, {in(ident("")), nil}, {in(ident(""), w), nil}, {in(append([]api.Token{ident("")}, in(w)...)...), nil},
		{append([]api.Token{{Kind: api.Str, Text: ""}}, in(w)...), nil}, {append([]api.Token{{Kind: api.Func, Text: "a"}}, in(w)...), nil}, {append([]api.Token{{}}, in(w)...), nil},
		// What is no name is none, whatever it says.
		{[]api.Token{{Kind: api.Open, Text: "a"}, w, sign(api.Close)}, []api.QNode{feature(1)}}, {[]api.Token{{Kind: api.Func, Text: ""}, w, sign(api.Close)}, nil}, {append([]api.Token{{Kind: api.Func, Text: "not"}}, w, sign(api.Close)), nil},
		// Kinds and texts count, nothing else.
		{slices.Concat(in(w), []api.Token{and}, in(w)), []api.QNode{node(1, 2), feature(1), feature(1)}}, {append([]api.Token{not}, in(w)...), []api.QNode{node(3, 1), feature(1)}}, {in(append([]api.Token{not}, in(w)...)...), []api.QNode{node(3, 1), feature(1)}},
		{in(api.Token{Kind: api.Ident, Text: "width", N: 1}, api.Token{Kind: api.Space, Text: "<", N: 3}, api.Token{Kind: api.Delim, Text: "<", N: 2}, api.Token{Kind: api.Delim, Text: "=", N: 2}, px(7)), []api.QNode{ask(1, bound(2, 7, 0))}},
		{in(w, api.Token{Kind: api.Colon, Text: "a", N: 1}, api.Token{Kind: api.Num, Text: "a"}), []api.QNode{ask(1, bound(3, 0, 0))}}, {in(ident("aspect-ratio"), sign(api.Colon), api.Token{Kind: api.Num, Text: "px", N: 5}), []api.QNode{ask(5, bound(3, 5, 1000))}},
		{in(w, delim("<="), px(7)), nil}, {in(w, delim(":"), px(7)), nil}, {in(w, delim(""), px(7)), nil}, {in(ident("aspect-ratio"), sign(api.Colon), num(1), delim("//"), num(1)), nil}, {in(w, sign(api.Colon), api.Token{Kind: api.Pct}), nil}, {in(w, sign(api.Colon), api.Token{Kind: api.Dim, N: 5}), nil}, {in(w, sign(api.Colon), api.Token{Kind: api.Num, Text: "px", N: 5}), nil}, {in(w, sign(api.Colon), api.Token{Kind: api.Dim, Text: "em"}), nil}, {in(w, api.Token{}), nil}, {in(api.Token{Text: "width"}), nil},
		// What is read must be right.
		{in(w, sign(api.Colon), px(1<<30)), []api.QNode{ask(1, bound(3, 1<<30, 0))}}, {in(w, sign(api.Colon), px(1<<30+1)), nil}, {in(w, delim(">"), px(-1<<30)), []api.QNode{ask(1, bound(5, -1<<30, 0))}}, {in(w, delim(">"), px(-1<<30-1)), nil}, {in(px(most), delim("<"), w), nil}, {in(w, sign(api.Colon), px(least)), nil}, {in(px(0), delim("<"), w, delim("<"), px(most)), nil}, {in(px(least), delim("<"), w, delim("<"), px(0)), nil},
		{in(ident("aspect-ratio"), sign(api.Colon), num(1<<30)), []api.QNode{ask(5, bound(3, 1<<30, 1000))}}, {in(ident("aspect-ratio"), sign(api.Colon), num(1<<30+1)), nil}, {in(ident("aspect-ratio"), sign(api.Colon), num(1), delim("/"), num(1<<30)), []api.QNode{ask(5, bound(3, 1, 1<<30))}}, {in(ident("aspect-ratio"), sign(api.Colon), num(1), delim("/"), num(most)), nil},
	} {
		got, e := query.Parse(c.l)
		if (e == api.OK) != (c.want != nil) || !query.Same(got, of(c.want...)) {
			t.Errorf("%v: %v, %d, not %v", c.l, got, e, c.want)
		}
	}
}

// TestParseReckoned: P8.2 and P8.3 of all short lists.
func TestParseReckoned(t *testing.T) {
	lists(alphabet(), 3, func(l []api.Token) { reckoned(t, l) })
	// Within brackets.
	open, end := []api.Token{sign(api.Open)}, []api.Token{sign(api.Close)}
	in := func(l []api.Token) { reckoned(t, slices.Concat(open, l, end)) }
	lists(alphabet(), 4, in)
	lists([]api.Token{ident("width"), px(5), num(0), delim("<"), delim("="), delim(">"), sign(api.Space)}, 6, in)
	lists([]api.Token{ident("aspect-ratio"), num(3), num(0), delim("/"), delim("<"), sign(api.Colon), sign(api.Space)}, 6, in)
	lists([]api.Token{ident("orientation"), ident("portrait"), delim("="), delim("<"), sign(api.Colon), sign(api.Space)}, 5, in)
	// What is made of features: w is one in its brackets.
	words := [][]api.Token{{ident("not")}, {ident("and")}, {ident("or")}, cut(t, "(width)"), open, end, {ident("a")}}
	lists([]api.Token{num(0), num(1), num(2), num(3), num(4), num(5), num(6)}, 7, func(l []api.Token) {
		var all []api.Token
		for _, k := range l {
			all = append(all, words[k.N]...)
		}
		reckoned(t, all)
	})
}

// loosened is a right query's tokens, written otherwise where that says the same, and sometimes spoilt.
func loosened(c *chance, l []api.Token) []api.Token {
	var all []api.Token
	for i, k := range l {
		beside := i > 0 && (l[i-1].Kind == api.Delim && k.Kind == api.Delim)
		for !beside && c.below(6) == 0 {
			all = append(all, sign(api.Space))
		}
		if k.Kind == api.Space && c.below(4) == 0 {
			continue
		}
		all = append(all, k)
	}
	for c.below(3) == 0 {
		i := c.below(len(all))
		switch c.below(3) {
		case 0:
			all = append(slices.Delete(all, i, i+1), sign(api.Space))
		case 1:
			all = slices.Insert(all, i, oneOf(c, alphabet()...))
		default:
			all[i] = oneOf(c, alphabet()...)
		}
	}
	return all
}

// TestParseLoose: P8.2 and P8.3 of many lists that are nearly queries.
func TestParseLoose(t *testing.T) {
	c := chance(3)
	read := 0
	for range 30000 {
		l, _ := query.Print(someQuery(&c))
		if c.below(3) == 0 {
			l = slices.Concat([]api.Token{sign(api.Open)}, l, []api.Token{sign(api.Close)})
		}
		if reckoned(t, loosened(&c, l)) {
			read++
		}
	}
	if read < 8000 || read > 25000 {
		t.Errorf("%d are read", read)
	}
}

// TestPrint: P8.4 of what a text tells.
func TestPrint(t *testing.T) {
	for s, want := range map[string]string{
		"(width)": "(width)", "(( height ))": "(height)", "a (inline-size)": "a (inline-size)", "(block-size:1.50px)": "(block-size = 1.5px)", "(min-width:0)": "(width >= 0px)", "(max-width:1px)": "(width <= 1px)", "(width<1px)": "(width < 1px)", "(width>1px)": "(width > 1px)", "(1px>width)": "(width < 1px)", "(1px>=width)": "(width <= 1px)",
		"(1px<width<2px)": "(1px < width < 2px)", "(1px<=width<2px)": "(1px <= width < 2px)", "(2px>=width>1px)": "(2px >= width > 1px)", "(2px>width>=1px)": "(2px > width >= 1px)", "(aspect-ratio)": "(aspect-ratio)", "(aspect-ratio:1.5)": "(aspect-ratio = 1.5 / 1)", "(1/2<aspect-ratio<=16/9)": "(1 / 2 < aspect-ratio <= 16 / 9)",
		"(orientation)": "(orientation)", "(orientation:portrait)": "(orientation: portrait)", "(orientation :landscape)": "(orientation: landscape)",
		"not (width)": "not (width)", "not ((not (width)))": "not (not (width))", "(width)and (height)": "(width) and (height)", "(width) or (height) or (width)": "(width) or (height) or (width)", "card ((width)and (height))or (not (width))": "card ((width) and (height)) or (not (width))", "not ((width) or ((height) and (width)))": "not ((width) or ((height) and (width)))",
	} {
		q, e := query.Parse(cut(t, s))
		got, e2 := query.Print(q)
		if e != api.OK || e2 != api.OK || !slices.Equal(got, cut(t, want)) {
			t.Errorf("%q: %v, %d, %d, not %q", s, got, e, e2, want)
		}
	}
	got, e := query.Print(api.Query{Name: "a", Nodes: []api.QNode{node(api.And, 2), ask(5, bound(4, 1, 2), bound(5, 3, 4)), node(api.Not, 1), ask(6, bound(3, 2, 0))}})
	space := sign(api.Space)
	want := []api.Token{
		ident("a"), space, sign(api.Open), num(1), space, delim("/"), space, num(2), space, delim(">"), delim("="), space, ident("aspect-ratio"), space, delim(">"), space, num(3), space, delim("/"), space, num(4), sign(api.Close), space, ident("and"), space,
		sign(api.Open), ident("not"), space, sign(api.Open), ident("orientation"), sign(api.Colon), space, ident("landscape"), sign(api.Close), sign(api.Close),
	}
	if e != api.OK || !slices.Equal(got, want) {
		t.Error(got, e)
	}
}

// TestPrintWrong: P8.4.
func TestPrintWrong(t *testing.T) {
	c := chance(13)
	check := func(q api.Query) {
		want := api.ErrQuery
		if rightOf(q) {
			want = api.OK
		}
		if got, e := query.Print(q); e != want || (e == api.OK) != (len(got) > 0) {
			t.Fatalf("%v: %v, %d", q, got, e)
		}
	}
	for _, q := range []api.Query{{}, of(), of(api.QNode{}), {Name: "not", Nodes: []api.QNode{feature(1)}}, of(feature(1), feature(1)), of(node(api.And, 1), feature(1)), of(ask(1, bound(3, 1<<30+1, 0))), of(node(api.Not, 1), feature(7))} {
		check(q)
	}
	for range 10000 {
		check(oddQuery(&c))
	}
}

// TestReadAsItWas: P8.5, of tokens and of the text that they are printed as.
func TestReadAsItWas(t *testing.T) {
	c := chance(17)
	for range 10000 {
		q := someQuery(&c)
		l, e := query.Print(q)
		got, e2 := query.Parse(l)
		if e != api.OK || e2 != api.OK || !query.Same(got, q) {
			t.Fatalf("%v: %v, read as %v: %d, %d", q, l, got, e, e2)
		}
		s, e := lex.Print(l)
		got, e2 = query.Parse(cut(t, s))
		if e != api.OK || e2 != api.OK || !query.Same(got, q) {
			t.Fatalf("%q is read as %v: %d, %d", s, got, e, e2)
		}
	}
}

// TestNew: what is handed in stays as it is, and what is answered is new.
func TestNew(t *testing.T) {
	c := chance(19)
	for range 1000 {
		q := someQuery(&c)
		nodes := slices.Clone(q.Nodes)
		l, _ := query.Print(q)
		tokens := slices.Clone(l)
		got, _ := query.Parse(l)
		again, _ := query.Parse(l)
		if !slices.Equal(l, tokens) || !slices.Equal(q.Nodes, nodes) {
			t.Fatalf("%v was %v", l, tokens)
		}
		clear(l[:cap(l)])
		clear(got.Nodes[:cap(got.Nodes)])
		if more, _ := query.Print(q); !slices.Equal(more, tokens) || !slices.Equal(again.Nodes, nodes) || !slices.Equal(q.Nodes, nodes) {
			t.Fatalf("of %v something is shared", q)
		}
	}
}
