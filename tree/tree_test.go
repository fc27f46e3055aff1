package tree_test

import (
	"math"
	"slices"
	"strconv"
	"strings"
	"testing"

	"wainscot/api"
	"wainscot/tree"
)

const (
	least = math.MinInt
	most  = math.MaxInt
)

// chance hands out numbers that look like chance, the same ones in every run.
type chance uint64

func (c *chance) below(n int) int {
	*c = *c*6364136223846793005 + 1442695040888963407
	return int(uint64(*c)>>33) % n
}

func element(parent int, tag string) api.Node {
	return api.Node{Parent: parent, Tag: tag}
}

func words(parent int, s string) api.Node {
	return api.Node{Parent: parent, Text: s}
}

// elements are a list of them, of these parents.
func elements(parents ...int) []api.Node {
	var l []api.Node
	for _, p := range parents {
		l = append(l, element(p, "a"))
	}
	return l
}

// chain is a list of elements, each in the one ahead of it.
func chain(n int) []api.Node {
	var l []api.Node
	for i := range n {
		l = append(l, element(i-1, "a"))
	}
	return l
}

// flat is an element with others beneath it, n in all.
func flat(n int) []api.Node {
	l := elements(-1)
	for len(l) < n {
		l = append(l, element(0, "b"))
	}
	return l
}

func same(a, b api.Node) bool {
	return a.Parent == b.Parent && a.Tag == b.Tag && a.ID == b.ID && a.Text == b.Text && slices.Equal(a.Classes, b.Classes) && slices.Equal(a.Attrs, b.Attrs)
}

func deep(l []api.Node) []api.Node {
	m := slices.Clone(l)
	for i := range m {
		m[i].Classes = slices.Clone(m[i].Classes)
		m[i].Attrs = slices.Clone(m[i].Attrs)
	}
	return m
}

// spoil overwrites all that a list's nodes hold.
func spoil(l []api.Node) {
	for i := range l {
		for j := range l[i].Classes {
			l[i].Classes[j] = "spoilt"
		}
		for j := range l[i].Attrs {
			l[i].Attrs[j] = api.Attr{Name: "spoilt", Value: "spoilt"}
		}
		l[i] = api.Node{Parent: 77, Text: "spoilt"}
	}
}

// isName is a name by the document's words.
func isName(s string) bool {
	if len(s) < 1 || len(s) > 32 {
		return false
	}
	const digits, plain = "0123456789", "abcdefghijklmnopqrstuvwxyzABCDEFGHIJKLMNOPQRSTUVWXYZ_"
	isPlain := func(c byte) bool { return c >= 128 || strings.IndexByte(plain, c) >= 0 }
	rest := s[1:]
	if !isPlain(s[0]) {
		if s[0] != '-' || len(s) < 2 || s[1] != '-' && !isPlain(s[1]) {
			return false
		}
		rest = s[2:]
	}
	for i := range len(rest) {
		if c := rest[i]; !isPlain(c) && c != '-' && strings.IndexByte(digits, c) < 0 {
			return false
		}
	}
	return true
}

// isRight is a right node by the document's words.
func isRight(n api.Node) bool {
	if n.Tag == "" {
		return tree.Text(n.Text) && n.ID == "" && len(n.Classes) == 0 && len(n.Attrs) == 0
	}
	ok := isName(n.Tag) && (n.ID == "" || isName(n.ID)) && n.Text == "" && len(n.Classes) <= 8 && len(n.Attrs) <= 8
	for _, c := range n.Classes {
		ok = ok && isName(c)
	}
	for _, a := range n.Attrs {
		ok = ok && isName(a.Name) && tree.Text(a.Value)
	}
	return ok
}

// beneath tells by the document's words whether node j stands beneath node i.
func beneath(l []api.Node, j, i int) bool {
	p := l[j].Parent
	return p >= 0 && p < j && (p == i || beneath(l, p, i))
}

// checked is Check by the document's words.
func checked(l []api.Node) api.Errno {
	if len(l) == 0 {
		return api.ErrTree
	}
	if len(l) > 1024 {
		return api.ErrNodes
	}
	for i, n := range l {
		if !isRight(n) {
			return api.ErrTree
		}
		if i == 0 {
			if n.Tag == "" || n.Parent != -1 {
				return api.ErrTree
			}
			continue
		}
		p := n.Parent
		if p < 0 || p >= i || l[p].Tag == "" || p != i-1 && !beneath(l, i-1, p) {
			return api.ErrTree
		}
		depth := 1
		for j := range i {
			if beneath(l, i, j) {
				depth++
			}
		}
		if depth > 64 {
			return api.ErrDepth
		}
	}
	return api.OK
}

// anyLists are lists of all kinds, few of them trees.
func anyLists() [][]api.Node {
	l := [][]api.Node{nil, {}, elements(-1), elements(0), elements(5, 5, 5), elements(-1, 0, 1, 0), elements(-1, -1, 0, 1, -7, 4), elements(-1, 0, 0, 1, 2, 1), elements(2, 2, 2, 2), elements(most, least, 1, 2), chain(70), flat(70)}
	c := chance(3)
	for range 400 {
		m := make([]api.Node, c.below(14))
		for i := range m {
			m[i].Parent = c.below(i+3) - 1
			if c.below(3) == 0 {
				m[i].Parent = i - 1
			}
		}
		l = append(l, m)
	}
	return l
}

// aTree is a tree of up to n nodes, no deeper than that; its nodes are marked so that each is told from the others.
func aTree(c *chance, n, depth int, mark string) []api.Node {
	l := elements(-1)
	open := []int{0}
	for len(l) < n {
		for len(open) > 1 && (len(open) >= depth || c.below(3) == 0) {
			open = open[:len(open)-1]
		}
		if len(open) >= depth {
			break
		}
		p, m := open[len(open)-1], mark+strconv.Itoa(len(l))
		if c.below(4) == 0 {
			l = append(l, words(p, m))
			continue
		}
		open = append(open, len(l))
		l = append(l, api.Node{Parent: p, Tag: m, ID: "i" + m, Classes: []string{m, "c"}[:c.below(3)], Attrs: []api.Attr{{Name: m, Value: m}, {Name: "x"}}[:c.below(3)]})
	}
	return l
}

func TestName(t *testing.T) {
	for _, s := range []string{
		"a", "z", "A", "Z", "_", "ab", "a1", "a-", "a--", "a_b", "-a", "-z", "-A", "-Z", "-_", "--", "---", "--1", "-a-1", "-a1", "__", "_1", "\x80", "\xff", "a\x80", "-\x80", "\xc3\xa9", "-\u00e9l", "a0", "a9", "-_9",
		strings.Repeat("a", 32), strings.Repeat("-", 32), strings.Repeat("\xff", 32), "-" + strings.Repeat("a", 31), "a" + strings.Repeat("9", 31),
	} {
		if !tree.Name(s) {
			t.Errorf("%q is a name", s)
		}
	}
	for _, s := range []string{
		"", "-", "1", "9", "0a", "-1", "-0a", "-9", " ", " a", "a ", "a b", "a.b", "a\x00", "\x00", "a\x7f", "\x7f", "@", "[", "`", "{", "a@", "a[", "a`", "a{", "a/", "a:", "-@", "-[", "-`", "-{", "-/", "-:", "+a", "a+", "- a", "-.", "\"a\"", "a\"", "#a", "a,", "a\\", "a\n", "\ta",
		strings.Repeat("a", 33), strings.Repeat("-", 33), strings.Repeat("\xff", 33), strings.Repeat("\u00e9", 17), strings.Repeat("a", 1<<20), strings.Repeat("a", 31) + " ",
	} {
		if tree.Name(s) {
			t.Errorf("%.40q is no name", s)
		}
	}
	// Every byte at each place that counts.
	for i := range 256 {
		c := string([]byte{byte(i)})
		for _, s := range []string{c, c + "a", "-" + c, "a" + c, "--" + c, "-a" + c, "a" + c + "a", c + "-", c + c, "-" + c + c, strings.Repeat("a", 31) + c} {
			if tree.Name(s) != isName(s) {
				t.Errorf("is %q a name: %v", s, tree.Name(s))
			}
		}
	}
}

func TestText(t *testing.T) {
	for _, s := range []string{"", " ", "a", "two words", "  ", "'", "\\", "\x7f", "\x80", "\xff", "\u00e9", "{}<>&;", strings.Repeat("a", 256), strings.Repeat("\xff", 256), strings.Repeat("\u00e9", 128)} {
		if !tree.Text(s) {
			t.Errorf("%.40q are words", s)
		}
	}
	for _, s := range []string{"\"", "a\"", "\"a", "a\"b", "\x00", "\x1f", "a\x1f", "\x1fa", "\n", "a\nb", "\t", "\r", strings.Repeat("a", 257), strings.Repeat("\u00e9", 129), strings.Repeat("a", 1<<20), strings.Repeat("a", 255) + "\"", strings.Repeat("a", 255) + "\n"} {
		if tree.Text(s) {
			t.Errorf("%.40q are no words", s)
		}
	}
	for i := range 256 {
		c := string([]byte{byte(i)})
		for _, s := range []string{c, "a" + c, c + "a", "a" + c + "a", strings.Repeat("a", 255) + c} {
			if tree.Text(s) != (i >= 32 && i != 34) {
				t.Errorf("are %.40q words: %v", s, tree.Text(s))
			}
		}
	}
}

// rightNodes are nodes that are right, but for their Parent.
func rightNodes() []api.Node {
	marks := make([]string, 8)
	attrs := make([]api.Attr, 8)
	for i := range marks {
		marks[i] = "m"
		attrs[i] = api.Attr{Name: "n", Value: strings.Repeat("v", 32*i+32)}
	}
	return []api.Node{
		{Tag: "a"}, {Tag: "-a"}, {Tag: strings.Repeat("t", 32)}, {Tag: "a", ID: "i"}, {Tag: "a", ID: "--"}, {Tag: "a", ID: strings.Repeat("i", 32)},
		{Tag: "a", Classes: []string{}, Attrs: []api.Attr{}}, {Tag: "a", Classes: []string{"c"}}, {Tag: "a", Classes: marks}, {Tag: "a", Attrs: attrs},
		{Tag: "a", Attrs: []api.Attr{{Name: "n"}}}, {Tag: "a", Attrs: []api.Attr{{Name: "n", Value: "two words"}, {Name: "n", Value: "1"}}},
		{Tag: "a", ID: "i", Classes: marks, Attrs: attrs},
		{}, {Text: "w"}, {Text: strings.Repeat("w", 256)}, {Text: " 1 "}, {Text: "w", Classes: []string{}, Attrs: []api.Attr{}},
	}
}

// wrongNodes are nodes that are not right.
func wrongNodes() []api.Node {
	return []api.Node{
		{Tag: "1"}, {Tag: "a b"}, {Tag: "-"}, {Tag: " "}, {Tag: strings.Repeat("t", 33)},
		{Tag: "a", ID: "1"}, {Tag: "a", ID: "a b"}, {Tag: "a", ID: strings.Repeat("i", 33)}, {Tag: "1", ID: "i"},
		{Tag: "a", Classes: []string{""}}, {Tag: "a", Classes: []string{"c", "1"}}, {Tag: "a", Classes: []string{"1", "c"}}, {Tag: "a", Classes: []string{"c d"}}, {Tag: "a", Classes: slices.Repeat([]string{"c"}, 9)},
		{Tag: "a", Attrs: []api.Attr{{}}}, {Tag: "a", Attrs: []api.Attr{{Name: "1"}}}, {Tag: "a", Attrs: []api.Attr{{Value: "v"}}}, {Tag: "a", Attrs: []api.Attr{{Name: "n", Value: "\""}}},
		{Tag: "a", Attrs: []api.Attr{{Name: "n", Value: "\n"}}}, {Tag: "a", Attrs: []api.Attr{{Name: "n", Value: strings.Repeat("v", 257)}}}, {Tag: "a", Attrs: []api.Attr{{Name: "n"}, {Name: "n", Value: "\x1f"}}},
		{Tag: "a", Attrs: slices.Repeat([]api.Attr{{Name: "n"}}, 9)}, {Tag: "a", Text: "w"}, {Tag: "a", Text: " "},
		{Text: "\""}, {Text: "\n"}, {Text: strings.Repeat("w", 257)}, {ID: "i"}, {Text: "w", ID: "i"}, {Text: "w", Classes: []string{"c"}}, {Classes: []string{"c"}}, {Classes: []string{""}}, {Text: "w", Attrs: []api.Attr{{Name: "n"}}}, {Attrs: []api.Attr{{}}},
	}
}

// TestRight: P4.1: of a node's own fields.
func TestRight(t *testing.T) {
	for _, n := range rightNodes() {
		n.Parent = 0
		if e := tree.Check([]api.Node{element(-1, "a"), n, element(0, "b")}); e != api.OK {
			t.Errorf("%v is right: %d", n, e)
		}
		n.Parent = -1
		want := api.OK
		if n.Tag == "" {
			want = api.ErrTree
		}
		if e := tree.Check([]api.Node{n}); e != want {
			t.Errorf("%v alone: %d", n, e)
		}
	}
	for _, n := range wrongNodes() {
		n.Parent = 0
		if e := tree.Check([]api.Node{element(-1, "a"), n, element(0, "b")}); e != api.ErrTree {
			t.Errorf("%v is not right: %d", n, e)
		}
		if e := tree.Check([]api.Node{element(-1, "a"), element(0, "b"), n}); e != api.ErrTree {
			t.Errorf("%v is not right: %d", n, e)
		}
		n.Parent = -1
		if e := tree.Check([]api.Node{n}); e != api.ErrTree {
			t.Errorf("%v alone is not right: %d", n, e)
		}
	}
}

func TestCheck(t *testing.T) {
	wordsIn := append(elements(-1), words(0, "w"), words(0, "w"), element(0, "a"), words(3, ""))
	for i, c := range []struct {
		l    []api.Node
		want api.Errno
	}{
		{nil, api.ErrTree}, {[]api.Node{}, api.ErrTree},
		{elements(-1), api.OK}, {elements(-1, 0, 1, 0), api.OK}, {elements(-1, 0, 1, 2, 1, 0), api.OK}, {elements(-1, 0, 0, 0), api.OK}, {wordsIn, api.OK},
		// The first one's Parent is -1, of no other one.
		{elements(0), api.ErrTree}, {elements(-2), api.ErrTree}, {elements(1, 0), api.ErrTree}, {elements(least), api.ErrTree}, {elements(most), api.ErrTree},
		{elements(-1, -1), api.ErrTree}, {elements(-1, 0, -1), api.ErrTree}, {elements(-1, -2), api.ErrTree}, {elements(-1, least), api.ErrTree},
		// No node is its own parent, or in a later one, or in one that is closed.
		{elements(-1, 1), api.ErrTree}, {elements(-1, 2, 0), api.ErrTree}, {elements(-1, 0, 3, 0), api.ErrTree}, {elements(-1, most), api.ErrTree},
		{elements(-1, 0, 0, 1), api.ErrTree}, {elements(-1, 0, 1, 0, 2), api.ErrTree}, {elements(-1, 0, 1, 0, 1), api.ErrTree}, {elements(-1, 0, 1, 0, 3), api.OK},
		// Nothing stands in words, and no tree begins with them.
		{append(elements(-1), words(0, "w"), element(1, "a")), api.ErrTree}, {append(elements(-1), words(0, "w"), words(1, "w")), api.ErrTree}, {append(elements(-1), words(0, ""), words(0, "")), api.OK},
		{[]api.Node{words(-1, "w")}, api.ErrTree}, {[]api.Node{words(-1, "w"), element(0, "a")}, api.ErrTree}, {[]api.Node{{Parent: -1}}, api.ErrTree},
		{flat(1023), api.OK}, {flat(1024), api.OK}, {flat(1025), api.ErrNodes}, {flat(5000), api.ErrNodes},
		// Of too many it does not matter what they are.
		{make([]api.Node, 1025), api.ErrNodes}, {make([]api.Node, 1024), api.ErrTree}, {chain(1025), api.ErrNodes},
		{chain(64), api.OK}, {chain(65), api.ErrDepth}, {chain(1024), api.ErrDepth}, {append(chain(64), words(62, "w")), api.OK}, {append(chain(64), words(63, "w")), api.ErrDepth}, {append(chain(64), element(62, "a")), api.OK}, {append(chain(64), element(62, "a"), element(64, "a")), api.ErrDepth},
		// The first node that is wrong tells; of one node its fault ahead of its depth.
		{append(chain(65), element(0, "1")), api.ErrDepth}, {append(chain(64), element(63, "1")), api.ErrTree}, {append(chain(64), element(64, "a")), api.ErrTree}, {append(chain(64), element(0, "1"), element(63, "a")), api.ErrTree}, {append(append(elements(-1), element(0, "1")), chain(70)...), api.ErrTree}, {append(chain(65), element(-1, "a")), api.ErrDepth}, {append(chain(64), element(0, "a"), element(63, "a")), api.ErrTree},
	} {
		if got := tree.Check(c.l); got != c.want {
			t.Errorf("list %d: %d, not %d", i, got, c.want)
		}
		if want := checked(c.l); want != c.want && len(c.l) < 200 {
			t.Errorf("list %d: the document says %d, not %d", i, want, c.want)
		}
	}
}

// TestCheckReckoned: P4.1, of trees, and of trees with one field spoilt.
func TestCheckReckoned(t *testing.T) {
	c := chance(4)
	wrong, right := wrongNodes(), rightNodes()
	for range 4000 {
		l := aTree(&c, 1+c.below(90), 66, "n")
		for range c.below(3) {
			i := c.below(len(l))
			switch c.below(4) {
			case 0:
				l[i].Parent = c.below(len(l)+4) - 2
			case 1:
				p := l[i].Parent
				l[i] = wrong[c.below(len(wrong))]
				l[i].Parent = p
			case 2:
				p := l[i].Parent
				l[i] = right[c.below(len(right))]
				l[i].Parent = p
			default:
				l = append(l[:i:i], append(chain(c.below(70)), l[i:]...)...)
			}
		}
		if got, want := tree.Check(l), checked(l); got != want {
			t.Fatalf("%v: %d, not %d", l, got, want)
		}
	}
}

func TestExample(t *testing.T) {
	l := elements(-1, 0, 1, 0)
	for i, depth := range []int{1, 2, 3, 2} {
		if tree.Depth(l, i) != depth {
			t.Errorf("the depth of %d is %d", i, tree.Depth(l, i))
		}
	}
	if !slices.Equal(tree.Kids(l, 0), []int{1, 3}) || !slices.Equal(tree.Ups(l, 2), []int{1, 0}) || tree.End(l, 1) != 3 || tree.End(l, 0) != 4 {
		t.Error(tree.Kids(l, 0), tree.Ups(l, 2), tree.End(l, 1), tree.End(l, 0))
	}
}

// TestAround: P4.2, of any list: what is told of its nodes, held against who stands beneath whom.
func TestAround(t *testing.T) {
	for _, l := range anyLists() {
		for i := range l {
			var ups, kids []int
			for j := len(l) - 1; j >= 0; j-- {
				if beneath(l, i, j) {
					ups = append(ups, j)
				}
			}
			end := i + 1
			for end < len(l) && beneath(l, end, i) {
				end++
			}
			for j := range l {
				if l[j].Parent == i && i < j {
					kids = append(kids, j)
				}
			}
			if got := tree.Depth(l, i); got != 1+len(ups) {
				t.Fatalf("%v: the depth of %d is %d, not %d", l, i, got, 1+len(ups))
			}
			if got := tree.Ups(l, i); !slices.Equal(got, ups) {
				t.Fatalf("%v: Ups of %d are %v, not %v", l, i, got, ups)
			}
			if got := tree.Kids(l, i); !slices.Equal(got, kids) {
				t.Fatalf("%v: Kids of %d are %v, not %v", l, i, got, kids)
			}
			if got := tree.End(l, i); got != end {
				t.Fatalf("%v: End of %d is %d, not %d", l, i, got, end)
			}
		}
	}
}

// TestNobody: P4.2 and P1: where there is no such node, there is nothing.
func TestNobody(t *testing.T) {
	for _, l := range anyLists() {
		for _, i := range []int{-1, -2, least, least + 1, len(l), len(l) + 1, most, most - 1, 1 << 32, -(1 << 32)} {
			if tree.Depth(l, i) != 0 || len(tree.Ups(l, i)) != 0 || len(tree.Kids(l, i)) != 0 || tree.End(l, i) != 0 {
				t.Fatalf("%v has a node %d: %d, %v, %v, %d", l, i, tree.Depth(l, i), tree.Ups(l, i), tree.Kids(l, i), tree.End(l, i))
			}
		}
	}
}

// TestNewAround: what is handed in stays, what is answered is new.
func TestNewAround(t *testing.T) {
	l := elements(-1, 0, 1, 1, 0, 4)
	want := deep(l)
	first, second := tree.Ups(l, 5), tree.Kids(l, 0)
	clear(first)
	clear(second)
	if !slices.Equal(tree.Ups(l, 5), []int{4, 0}) || !slices.Equal(tree.Kids(l, 0), []int{1, 4}) {
		t.Error(tree.Ups(l, 5), tree.Kids(l, 0))
	}
	tree.Check(l)
	tree.End(l, 1)
	tree.Depth(l, 5)
	if !slices.EqualFunc(l, want, same) {
		t.Error(l)
	}
}

// TestLong: P1: of a list longer and deeper than any tree.
func TestLong(t *testing.T) {
	const n = 1 << 17
	l := chain(n)
	if tree.Depth(l, n-1) != n || len(tree.Ups(l, n-1)) != n-1 || tree.End(l, 0) != n || tree.End(l, n-1) != n || len(tree.Kids(l, n-2)) != 1 || tree.Check(l) != api.ErrNodes {
		t.Error(tree.Depth(l, n-1), tree.End(l, 0))
	}
	if _, e := tree.Graft(l, 0, l); e != api.ErrTree {
		t.Error(e)
	}
}

// TestBetween: P4.6.
func TestBetween(t *testing.T) {
	c := chance(5)
	for range 500 {
		l := aTree(&c, 1+c.below(60), 64, "n")
		for i := range l {
			for j := range l {
				if between := i < j && j < tree.End(l, i); between != slices.Contains(tree.Ups(l, j), i) {
					t.Fatalf("%v: %d lies between %d and %d: %v", l, j, i, tree.End(l, i), between)
				}
			}
		}
	}
}

// text writes what stands beneath node i; inner stands in for what is beneath node at.
func text(l []api.Node, i, at int, inner string) string {
	if i == at {
		return inner
	}
	var s string
	for k, n := range l {
		if n.Parent != i {
			continue
		}
		s += n.Tag + "#" + n.ID + "." + strings.Join(n.Classes, ".")
		for _, a := range n.Attrs {
			s += "[" + a.Name + "=" + a.Value + "]"
		}
		s += "'" + n.Text + "'(" + text(l, k, at, inner) + ")"
	}
	return s
}

func TestGraft(t *testing.T) {
	l := []api.Node{element(-1, "a"), element(0, "b"), element(1, "c"), words(1, "w"), element(0, "d"), element(4, "e")}
	m := []api.Node{{Parent: -1, Tag: "r", ID: "lost"}, element(0, "x"), words(1, "v"), element(0, "y")}
	for _, c := range []struct {
		i       int
		parents []int
		names   string
	}{
		{0, []int{-1, 0, 1, 0}, "a x v y"},
		{1, []int{-1, 0, 1, 2, 1, 0, 5}, "a b x v y d e"},
		{2, []int{-1, 0, 1, 2, 3, 2, 1, 0, 7}, "a b c x v y w d e"},
		{4, []int{-1, 0, 1, 1, 0, 4, 5, 4}, "a b c w d x v y"},
		{5, []int{-1, 0, 1, 1, 0, 4, 5, 6, 5}, "a b c w d e x v y"},
	} {
		got, e := tree.Graft(l, c.i, m)
		var parents []int
		var names []string
		for _, n := range got {
			parents = append(parents, n.Parent)
			names = append(names, n.Tag+n.Text)
		}
		if e != api.OK || !slices.Equal(parents, c.parents) || strings.Join(names, " ") != c.names || got[0].ID != "" {
			t.Errorf("at %d: %v, %d", c.i, got, e)
		}
	}
	// Beneath the first node of m may be nothing: then there is nothing.
	got, e := tree.Graft(l, 1, elements(-1))
	if e != api.OK || !slices.EqualFunc(got, []api.Node{element(-1, "a"), element(0, "b"), element(0, "d"), element(2, "e")}, same) {
		t.Error(got, e)
	}
	if got, e := tree.Graft(elements(-1), 0, elements(-1)); e != api.OK || len(got) != 1 {
		t.Error(got, e)
	}
	// What the first node of m itself has is not grafted, what node i itself has stays.
	host := []api.Node{{Parent: -1, Tag: "a", ID: "i", Classes: []string{"c"}, Attrs: []api.Attr{{Name: "n", Value: "v"}}}, element(0, "b")}
	guest := []api.Node{{Parent: -1, Tag: "z", ID: "z", Classes: []string{"z"}, Attrs: []api.Attr{{Name: "z"}}}, words(0, "w")}
	if got, e := tree.Graft(host, 0, guest); e != api.OK || len(got) != 2 || !same(got[0], host[0]) || !same(got[1], guest[1]) {
		t.Error(got, e)
	}
}

// TestGraftReckoned: P4.3, of texts: what is grafted reads as if its text were put into the other's.
func TestGraftReckoned(t *testing.T) {
	c := chance(6)
	for range 1500 {
		l, m := aTree(&c, 1+c.below(30), 30, "l"), aTree(&c, 1+c.below(30), 30, "m")
		if c.below(10) == 0 {
			m = l
		}
		i := c.below(len(l))
		oldL, oldM := deep(l), deep(m)
		got, e := tree.Graft(l, i, m)
		if !slices.EqualFunc(l, oldL, same) || !slices.EqualFunc(m, oldM, same) {
			t.Fatal("what is handed in was changed")
		}
		if l[i].Tag == "" {
			if e != api.ErrArg || got != nil {
				t.Fatalf("%v at words %d: %v, %d", l, i, got, e)
			}
			continue
		}
		if want := text(l, -1, i, text(m, 0, -2, "")); e != api.OK || text(got, -1, -2, "") != want {
			t.Fatalf("%v at %d: %v, %d, not %s", l, i, got, e, want)
		}
		if tree.Check(got) != api.OK || len(got) != len(l)-(tree.End(l, i)-i-1)+len(m)-1 {
			t.Fatalf("%v at %d: %v", l, i, got)
		}
	}
}

func TestGraftWrong(t *testing.T) {
	right := append(elements(-1, 0), words(0, "w"))
	wrong := elements(-1, -1)
	for i, c := range []struct {
		l    []api.Node
		i    int
		m    []api.Node
		want api.Errno
	}{
		{nil, 0, right, api.ErrTree}, {right, 0, nil, api.ErrTree}, {wrong, 0, right, api.ErrTree}, {right, 0, wrong, api.ErrTree}, {chain(65), 0, right, api.ErrTree}, {right, 0, chain(65), api.ErrTree}, {flat(1025), 0, right, api.ErrTree}, {right, 0, flat(1025), api.ErrTree},
		// No tree is told ahead of no element.
		{right, -1, wrong, api.ErrTree}, {wrong, 9, right, api.ErrTree}, {right, 2, nil, api.ErrTree}, {nil, most, nil, api.ErrTree},
		{right, -1, right, api.ErrArg}, {right, 3, right, api.ErrArg}, {right, 2, right, api.ErrArg}, {right, least, right, api.ErrArg}, {right, most, right, api.ErrArg}, {right, 1 << 32, right, api.ErrArg},
		// No element is told ahead of too many nodes.
		{flat(1024), 1024, flat(1024), api.ErrArg},
		{flat(1000), 1, flat(25), api.OK}, {flat(1000), 1, flat(26), api.ErrNodes}, {flat(1000), 0, flat(1024), api.OK}, {flat(1024), 1, flat(1), api.OK}, {flat(1024), 1, flat(2), api.ErrNodes},
		{chain(64), 62, elements(-1, 0), api.OK}, {chain(64), 63, elements(-1, 0), api.ErrDepth}, {chain(64), 63, elements(-1), api.OK}, {chain(64), 0, chain(64), api.OK}, {chain(64), 1, chain(64), api.ErrDepth}, {chain(64), 1, chain(63), api.OK}, {elements(-1, 0, 0), 2, chain(64), api.ErrDepth}, {elements(-1, 0, 0), 2, chain(63), api.OK},
		// Too many are told ahead of too deep.
		{append(chain(64), flat(960)[1:]...), 63, append(chain(64), flat(960)[1:]...), api.ErrNodes},
	} {
		got, e := tree.Graft(c.l, c.i, c.m)
		if e != c.want || e != api.OK && got != nil {
			t.Errorf("graft %d: %d nodes, %d, not %d", i, len(got), e, c.want)
		}
	}
}

// TestGraftKeepsNothing: the answer shares no list with what is handed in, nor with itself.
func TestGraftKeepsNothing(t *testing.T) {
	classes, attrs := []string{"c"}, []api.Attr{{Name: "n", Value: "v"}}
	made := func() []api.Node {
		return []api.Node{{Parent: -1, Tag: "a", Classes: classes, Attrs: attrs}, {Parent: 0, Tag: "b", Classes: classes, Attrs: attrs}, {Parent: 0, Tag: "c", Classes: classes, Attrs: attrs}}
	}
	l, m := made(), made()
	first, _ := tree.Graft(l, 1, m)
	second, _ := tree.Graft(l, 1, m)
	want := deep(second)
	spoil(first[1:2])
	if first[0].Classes[0] != "c" || first[2].Classes[0] != "c" || first[4].Attrs[0].Name != "n" {
		t.Error(first)
	}
	spoil(first)
	if classes[0] != "c" || attrs[0].Name != "n" || !slices.EqualFunc(l, made(), same) || !slices.EqualFunc(m, made(), same) {
		t.Error("the answer shares lists with what was handed in")
	}
	spoil(l)
	spoil(m)
	if len(second) != 5 || !slices.EqualFunc(second, want, same) {
		t.Error(second)
	}
}
