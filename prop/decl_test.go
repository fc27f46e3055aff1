package prop_test

import (
	"slices"
	"strings"
	"testing"

	"wainscot/api"
	"wainscot/lex"
	"wainscot/prop"
	"wainscot/syntax"
	"wainscot/value"
)

// cut answers a text's tokens.
func cut(t *testing.T, s string) []api.Token {
	t.Helper()
	l, e := lex.Lex(s)
	if e != api.OK {
		t.Fatalf("%q: %d", s, e)
	}
	return l
}

// one is the value that a text is.
func one(t *testing.T, s string) api.Value {
	t.Helper()
	l, e := value.Parse(cut(t, s))
	if e != api.OK || len(l) != 1 {
		t.Fatalf("%q: %v, %d", s, l, e)
	}
	return l[0]
}

// raw is the declaration of a text.
func raw(t *testing.T, s string) api.RawDecl {
	t.Helper()
	l := syntax.Decls(cut(t, s))
	if len(l) != 1 {
		t.Fatalf("%q: %v", s, l)
	}
	return l[0]
}

// told are the declarations of properties that a text tells, with ; behind each.
func told(t *testing.T, s string) []api.Decl {
	t.Helper()
	var l []api.Decl
	for _, line := range strings.Split(strings.Trim(s, "; "), ";") {
		name, rest, _ := strings.Cut(line, ":")
		rest, important := strings.CutSuffix(rest, "!important")
		l = append(l, api.Decl{Prop: prop.Named(strings.TrimSpace(name)), Value: one(t, rest), Important: important})
	}
	return l
}

// samples are texts of values of all kinds.
func samples() []string {
	return append(allWords(), "a", "card", "--", "0", "1", "-1", "2.5", "-0.5", "0px", "1px", "-1px", "1.5em", "2cqw", "0%", "50%", "-50%", "16/9", "1 / 2", "0/1", "1/0")
}

// TestParseProperty: P10.2, of all properties and values of all kinds.
func TestParseProperty(t *testing.T) {
	for i, name := range allNames() {
		for k, s := range samples() {
			important := k%2 == 1
			v := one(t, s)
			got, e := prop.Parse(api.RawDecl{Name: name, Value: cut(t, s), Important: important})
			if !prop.Takes(i+1, v) {
				if e != api.ErrValue || len(got) != 0 {
					t.Errorf("%s: %s: %v, %d", name, s, got, e)
				}
				continue
			}
			want := []api.Decl{{Prop: i + 1, Value: v, Important: important}}
			if e != api.OK || !slices.Equal(got, want) {
				t.Errorf("%s: %s: %v, %d", name, s, got, e)
			}
			// Spaces at both ends count for nothing; a second value is one too many.
			if got, e = prop.Parse(api.RawDecl{Name: name, Value: cut(t, "  "+s+" "), Important: important}); e != api.OK || !slices.Equal(got, want) {
				t.Errorf("%s: %s with Spaces: %v, %d", name, s, got, e)
			}
			for _, odd := range []string{s + " " + s, s + " inherit", "initial " + s, s + ",", s + ", " + s, s + " !", s + ";", s + " / a", "a / " + s, s + "/**/" + s, "(" + s + ")"} {
				if got, e = prop.Parse(api.RawDecl{Name: name, Value: cut(t, odd)}); e != api.ErrValue || len(got) != 0 {
					t.Errorf("%s: %s: %v, %d", name, odd, got, e)
				}
			}
		}
	}
}

// TestParseWrong: P10.2: names of nothing, values that are none.
func TestParseWrong(t *testing.T) {
	for _, name := range []string{"", " ", "color", "WIDTH", "Margin", "border", "border-top", "flex-", "gap-row", "container-", "margin ", "all", "inherit", strings.Repeat("a", 1<<16)} {
		for _, s := range []string{"1px", "inherit", "", "a b c d e", "'"} {
			if got, e := prop.Parse(api.RawDecl{Name: name, Value: cut(t, s), Important: true}); e != api.ErrProp || len(got) != 0 {
				t.Errorf("%q: %q: %v, %d", name, s, got, e)
			}
		}
	}
	for _, name := range append(allNames(), shorthands()...) {
		for _, s := range []string{"", " ", ";", ",", "/", "!", "1rem", "'a'", "a(1)", "(1px)", "#a", "1px,1px", "auto,", "auto /", "/ auto", "none/", "a/", "/size", "1px 1px 1px 1px 1px", "inherit inherit", "inherit / inherit", "1/2 1/2 1/2"} {
			if got, e := prop.Parse(api.RawDecl{Name: name, Value: cut(t, s), Important: true}); e != api.ErrValue || len(got) != 0 {
				t.Errorf("%q: %q: %v, %d", name, s, got, e)
			}
		}
	}
}

// TestShorthands: P10.2, P10.5: what shorthands stand for.
func TestShorthands(t *testing.T) {
	for _, c := range []struct{ s, want string }{
		{"margin: 1px auto", "margin-top: 1px; margin-right: auto; margin-bottom: 1px; margin-left: auto"},
		{"margin: 1px", "margin-top: 1px; margin-right: 1px; margin-bottom: 1px; margin-left: 1px"},
		{"margin: 1px 2% -3em", "margin-top: 1px; margin-right: 2%; margin-bottom: -3em; margin-left: 2%"},
		{"margin: 1px 2px 3px 4px !important", "margin-top: 1px !important; margin-right: 2px !important; margin-bottom: 3px !important; margin-left: 4px !important"},
		{"padding: 1px 2px", "padding-top: 1px; padding-right: 2px; padding-bottom: 1px; padding-left: 2px"},
		{"padding: 1px 2px 3px 4%", "padding-top: 1px; padding-right: 2px; padding-bottom: 3px; padding-left: 4%"},
		{"border-width: 1px 2px 3px", "border-top-width: 1px; border-right-width: 2px; border-bottom-width: 3px; border-left-width: 2px"},
		{"border-width: unset", "border-top-width: unset; border-right-width: unset; border-bottom-width: unset; border-left-width: unset"},
		{"gap: 1px", "row-gap: 1px; column-gap: 1px"}, {"gap: 1px normal", "row-gap: 1px; column-gap: normal"}, {"gap: initial", "row-gap: initial; column-gap: initial"},
		{"flex-flow: column", "flex-direction: column; flex-wrap: nowrap"}, {"flex-flow: wrap-reverse", "flex-direction: row; flex-wrap: wrap-reverse"},
		{"flex-flow: row-reverse wrap", "flex-direction: row-reverse; flex-wrap: wrap"}, {"flex-flow: wrap column", "flex-direction: column; flex-wrap: wrap"}, {"flex-flow: inherit !important", "flex-direction: inherit !important; flex-wrap: inherit !important"},
		{"flex: 2", "flex-grow: 2; flex-shrink: 1; flex-basis: 0px"}, {"flex: none", "flex-grow: 0; flex-shrink: 0; flex-basis: auto"}, {"flex: auto", "flex-grow: 1; flex-shrink: 1; flex-basis: auto"}, {"flex: initial", "flex-grow: initial; flex-shrink: initial; flex-basis: initial"},
		{"flex: content", "flex-grow: 1; flex-shrink: 1; flex-basis: content"}, {"flex: 50%", "flex-grow: 1; flex-shrink: 1; flex-basis: 50%"}, {"flex: 0 0", "flex-grow: 0; flex-shrink: 0; flex-basis: 0px"}, {"flex: 2 3 4px", "flex-grow: 2; flex-shrink: 3; flex-basis: 4px"},
		{"flex: 4px 2 3", "flex-grow: 2; flex-shrink: 3; flex-basis: 4px"}, {"flex: 2 auto", "flex-grow: 2; flex-shrink: 1; flex-basis: auto"}, {"flex: auto 2", "flex-grow: 2; flex-shrink: 1; flex-basis: auto"}, {"flex: 0.5 content !important", "flex-grow: 0.5 !important; flex-shrink: 1 !important; flex-basis: content !important"},
		{"container: a", "container-type: normal; container-name: a"}, {"container: none", "container-type: normal; container-name: none"}, {"container: a / size", "container-type: size; container-name: a"}, {"container: a/inline-size", "container-type: inline-size; container-name: a"},
		{"container: none /normal", "container-type: normal; container-name: none"}, {"container: a/ /**/ size", "container-type: size; container-name: a"}, {"container: inherit", "container-type: inherit; container-name: inherit"}, {"container: unset !important", "container-type: unset !important; container-name: unset !important"},
	} {
		want := told(t, c.want)
		if got, e := prop.Parse(raw(t, c.s)); e != api.OK || !slices.Equal(got, want) {
			t.Errorf("%s: %v, %d, not %v", c.s, got, e, want)
		}
	}
	for _, s := range []string{
		"margin: 0", "margin: 1px 0", "margin: none", "margin: 1px 2px 3px 4px 5px", "margin: 1px inherit", "margin: inherit 1px", "margin: initial unset", "padding: auto", "padding: -1px", "padding: 1px 1px 1px -1px", "border-width: 1%", "border-width: 1px 2px 3px 4%", "border-width: 1px 2px 3px 4px 5px",
		"gap: 1px 2px 3px", "gap: auto", "gap: -1px", "gap: 1px unset", "flex-flow: row row", "flex-flow: wrap wrap", "flex-flow: row nowrap wrap", "flex-flow: auto", "flex-flow: row 1px", "flex-flow: 1px row", "flex-flow: row inherit", "flex-flow: inherit wrap", "flex-flow: row column", "flex-flow: wrap nowrap",
		"flex: 1 2 3", "flex: 1 2 3 4px", "flex: 1 4px 2", "flex: 4px 5px", "flex: auto auto", "flex: auto 1 auto", "flex: none 1", "flex: 1 none", "flex: none none", "flex: -1", "flex: 1 -1", "flex: -1px", "flex: 1 1 -1px", "flex: 1/2", "flex: 1 inherit", "flex: unset auto", "flex: 1 1 inherit", "flex: a", "flex: 1 1 a", "flex: min-content", "flex: 1px 2 3 4px",
		"container: a size", "container: size", "container: size / a", "container: a / b", "container: a / size size", "container: a b / size", "container: a / size / size", "container: a /", "container: / size", "container: a / inherit", "container: inherit / size", "container: 1px", "container: a // size", "container: auto", "container: a / none", "container: a, b", "container: a / auto", "container: none none", "container: 1/2",
	} {
		if got, e := prop.Parse(raw(t, s)); e != api.ErrValue || len(got) != 0 {
			t.Errorf("%s: %v, %d", s, got, e)
		}
	}
}

// TestSpacesAround: P10.2: Spaces at both ends of a shorthand's value count for nothing.
func TestSpacesAround(t *testing.T) {
	for _, name := range shorthands() {
		for _, s := range []string{"1px", "row", "a", "a/size", "inherit", "1px 2px"} {
			want, wrong := prop.Parse(api.RawDecl{Name: name, Value: cut(t, s)})
			if got, e := prop.Parse(api.RawDecl{Name: name, Value: cut(t, "  "+s+" ")}); e != wrong || !slices.Equal(got, want) {
				t.Errorf("%s: %s: %v, %d, not %v, %d", name, s, got, e, want, wrong)
			}
		}
	}
}

// longhands answers by the chapter's words what a shorthand's values stand for, by name; nil, if it takes no such values.
func longhands(name string, l []string) map[string]string {
	general := []string{"inherit", "initial", "unset"}
	side := func(i, other int) string {
		if i < len(l) {
			return l[i]
		}
		return l[other]
	}
	alone := len(l) == 1 && slices.Contains(general, l[0])
	for _, s := range l {
		if !alone && slices.Contains(general, s) {
			return nil
		}
	}
	switch name {
	case "margin", "padding", "border-width":
		if len(l) > 4 {
			return nil
		}
		stem, tail, _ := strings.Cut(name, "-")
		if tail != "" {
			tail = "-" + tail
		}
		right := side(1, 0)
		left := right
		if len(l) == 4 {
			left = l[3]
		}
		return map[string]string{stem + "-top" + tail: l[0], stem + "-right" + tail: right, stem + "-bottom" + tail: side(2, 0), stem + "-left" + tail: left}
	case "gap":
		if len(l) > 2 {
			return nil
		}
		return map[string]string{"row-gap": l[0], "column-gap": side(1, 0)}
	case "flex-flow":
		return flowOf(l, alone)
	}
	return flexOf(l, alone)
}

func flowOf(l []string, alone bool) map[string]string {
	if alone {
		return map[string]string{"flex-direction": l[0], "flex-wrap": l[0]}
	}
	m := map[string]string{}
	for _, s := range l {
		name := "flex-direction"
		if strings.Contains(s, "wrap") {
			name = "flex-wrap"
		}
		if m[name] != "" {
			return nil
		}
		m[name] = s
	}
	if m["flex-direction"] == "" {
		m["flex-direction"] = "row"
	}
	if m["flex-wrap"] == "" {
		m["flex-wrap"] = "nowrap"
	}
	return m
}

func flexOf(l []string, alone bool) map[string]string {
	of := func(grow, shrink, basis string) map[string]string {
		return map[string]string{"flex-grow": grow, "flex-shrink": shrink, "flex-basis": basis}
	}
	if alone {
		return of(l[0], l[0], l[0])
	}
	// A letter for each: a number, a basis, none, or something else.
	form := ""
	for _, s := range l {
		switch {
		case slices.Contains([]string{"0", "1", "2.5"}, s):
			form += "n"
		case slices.Contains([]string{"auto", "content", "0px", "1px", "1.5em", "2cqw", "0%", "50%"}, s):
			form += "b"
		case s == "none":
			form += "0"
		default:
			form += "x"
		}
	}
	switch form {
	case "0":
		return of("0", "0", "auto")
	case "n":
		return of(l[0], "1", "0px")
	case "nn":
		return of(l[0], l[1], "0px")
	case "b":
		return of("1", "1", l[0])
	case "nb":
		return of(l[0], "1", l[1])
	case "bn":
		return of(l[1], "1", l[0])
	case "nnb":
		return of(l[0], l[1], l[2])
	case "bnn":
		return of(l[1], l[2], l[0])
	}
	return nil
}

// TestOneByOne: P10.5: a shorthand stands for what its longhands, declared one by one, would.
func TestOneByOne(t *testing.T) {
	some := []string{"auto", "none", "content", "inherit", "initial", "row", "column-reverse", "wrap", "nowrap", "normal", "a", "0", "2.5", "-1", "1px", "-1px", "2cqw", "50%", "16/9"}
	read := map[string]int{}
	check := func(name string, l []string) {
		// In the order of the properties' numbers; wrong, if one is.
		var want []api.Decl
		wrong := api.OK
		m := longhands(name, l)
		if m == nil {
			wrong = api.ErrValue
		}
		for i, p := range allNames() {
			if s, is := m[p]; is && prop.Takes(i+1, one(t, s)) {
				want = append(want, api.Decl{Prop: i + 1, Value: one(t, s), Important: true})
			} else if is {
				wrong = api.ErrValue
			}
		}
		if wrong != api.OK {
			want = nil
		}
		got, e := prop.Parse(api.RawDecl{Name: name, Value: cut(t, strings.Join(l, " ")), Important: true})
		if e != wrong || !slices.Equal(got, want) {
			t.Fatalf("%s: %v: %v, %d, not %v, %d", name, l, got, e, want, wrong)
		}
		read[name] += min(len(got), 1)
	}
	for _, name := range shorthands()[:6] {
		for _, a := range some {
			check(name, []string{a})
			for _, b := range some {
				check(name, []string{a, b})
				for _, c := range some {
					check(name, []string{a, b, c})
				}
			}
		}
		c := chance(23)
		for range 2000 {
			var l []string
			for range 4 + c.below(3) {
				l = append(l, oneOf(&c, "auto", "1px", "1px", "2cqw", "50%", "-1px", "2.5", "wrap", "row", "initial"))
			}
			check(name, l)
		}
	}
	for _, name := range shorthands()[:6] {
		if read[name] < 5 {
			t.Errorf("%s: only %d", name, read[name])
		}
	}
}

// TestContainer: P10.2, P10.5: container, of all short lists of tokens.
func TestContainer(t *testing.T) {
	alphabet := cut(t, "a none size inherit/1px,")
	letters := "a0si/x, "
	alphabet = slices.DeleteFunc(alphabet, func(k api.Token) bool { return k.Kind == api.Space })
	alphabet = append(alphabet, api.Token{Kind: api.Space})
	forms := map[string]string{"a": "normal", "0": "normal", "i": "inherit", "a/s": "size", "0/s": "size"}
	read := 0
	var l []api.Token
	var more func(s string)
	more = func(s string) {
		// Spaces may stand at both ends and around the /, and nowhere else can they part two.
		parts := strings.Split(strings.Trim(s, " "), "/")
		for i := range parts {
			parts[i] = strings.Trim(parts[i], " ")
		}
		bare := strings.Join(parts, "/")
		var want []api.Decl
		wrong := api.ErrValue
		if kind, is := forms[bare]; is {
			name := map[byte]string{'a': "a", '0': "none", 'i': "inherit"}[bare[0]]
			want, wrong = told(t, "container-type: "+kind+"; container-name: "+name), api.OK
			read++
		}
		if got, e := prop.Parse(api.RawDecl{Name: "container", Value: l}); e != wrong || !slices.Equal(got, want) {
			t.Fatalf("%q: %v, %d, not %v, %d", s, got, e, want, wrong)
		}
		for i := 0; i < len(alphabet) && len(l) < 6; i++ {
			l = append(l, alphabet[i])
			more(s + letters[i:i+1])
			l = l[:len(l)-1]
		}
	}
	more("")
	if read < 50 {
		t.Error(read)
	}
}

// TestRaw: P10.3.
func TestRaw(t *testing.T) {
	for i, name := range allNames() {
		grid(func(v api.Value) {
			d := api.Decl{Prop: i + 1, Value: v, Important: v.N%2 == 0}
			var want api.RawDecl
			wrong := api.ErrValue
			if prop.Takes(i+1, v) {
				want, wrong = api.RawDecl{Name: name, Value: value.Tokens(v), Important: d.Important}, api.OK
			}
			got, e := prop.Raw(d)
			if e != wrong || got.Name != want.Name || got.Important != want.Important || !slices.Equal(got.Value, want.Value) {
				t.Fatalf("%v: %v, %d, not %v, %d", d, got, e, want, wrong)
			}
		})
	}
	for _, p := range beyond() {
		for _, v := range []api.Value{{}, one(t, "1px"), one(t, "inherit")} {
			if got, e := prop.Raw(api.Decl{Prop: p, Value: v, Important: true}); e != api.ErrProp || got.Name != "" || len(got.Value) > 0 || got.Important {
				t.Errorf("%d: %v, %d", p, got, e)
			}
		}
	}
	d := api.Decl{Prop: prop.Named("aspect-ratio"), Value: one(t, "16/9"), Important: true}
	if got, e := prop.Raw(d); e != api.OK || got.Name != "aspect-ratio" || !got.Important || !slices.Equal(got.Value, cut(t, "16 / 9")) {
		t.Error(got, e)
	}
}

// TestParsedAsItWas: P10.4, of tokens, and of a declaration's text.
func TestParsedAsItWas(t *testing.T) {
	some := 0
	for p := range 38 {
		grid(func(v api.Value) {
			d := api.Decl{Prop: p, Value: v, Important: v.N%3 == 0}
			r, e := prop.Raw(d)
			if e != api.OK {
				return
			}
			some++
			if got, e := prop.Parse(r); e != api.OK || !slices.Equal(got, []api.Decl{d}) {
				t.Fatalf("%v is parsed as %v: %d", d, got, e)
			}
			s, e := lex.Print(r.Value)
			if r.Important {
				s += " !important"
			}
			if got, e2 := prop.Parse(raw(t, r.Name+": "+s)); e != api.OK || e2 != api.OK || !slices.Equal(got, []api.Decl{d}) {
				t.Fatalf("%v is parsed as %v: %d, %d", d, got, e, e2)
			}
		})
	}
	if some < 2000 {
		t.Error(some)
	}
}

// TestNew: what is handed in stays as it is, and what is answered is new.
func TestNew(t *testing.T) {
	for _, s := range []string{"margin: 1px 2px", "flex: 3px 1 2", "flex-flow: wrap row", "container: a / size", "gap: inherit", "width: 1px"} {
		d := raw(t, s)
		d.Value = append([]api.Token{{Kind: api.Space}}, d.Value...)
		was := slices.Clone(d.Value)
		got, _ := prop.Parse(d)
		again, _ := prop.Parse(d)
		want := slices.Clone(got)
		if !slices.Equal(d.Value, was) {
			t.Errorf("%s: %v was %v", s, d.Value, was)
		}
		spoil(d.Value)
		spoil(got)
		if !slices.Equal(again, want) {
			t.Errorf("%s: something is shared", s)
		}
		r, _ := prop.Raw(again[0])
		same, _ := prop.Raw(again[0])
		tokens := slices.Clone(r.Value)
		spoil(r.Value)
		if !slices.Equal(same.Value, tokens) {
			t.Errorf("%s: tokens are shared", s)
		}
	}
}

// spoil makes all that a list's memory has zero.
func spoil[T any](l []T) {
	clear(l[:cap(l)])
}
