package engine_test

import (
	"strconv"
	"strings"
	"testing"

	"wainscot/api"
	"wainscot/prop"
	"wainscot/tree"
	"wainscot/value"
)

// someTree is a tree of n nodes that looks like chance, more deep than wide.
func someTree(t *testing.T, c *chance, n int) []api.Node {
	t.Helper()
	l := []api.Node{{Parent: -1, Tag: "a"}}
	for i := 1; i < n; i++ {
		one := api.Node{Parent: i - 1}
		for l[one.Parent].Tag == "" || one.Parent > 0 && (c.below(3) == 0 || tree.Depth(l, one.Parent) == api.MaxDepth) {
			one.Parent = l[one.Parent].Parent
		}
		if c.below(7) == 0 {
			one.Text = oneOf(c, "", "ab cd", "x", "some more words")
		} else {
			one.Tag = oneOf(c, "a", "b", "c", "d")
			if c.below(3) == 0 {
				one.Classes = []string{oneOf(c, "x", "y")}
			}
		}
		l = append(l, one)
	}
	if e := tree.Check(l); e != api.OK {
		t.Fatalf("%+v: %d", l, e)
	}
	return l
}

// someLength is a length's text: of few px, or of what hangs on who holds.
func someLength(c *chance) string {
	return strconv.Itoa(c.below(30)) + oneOf(c, "px", "px", "px", "%", "em", "cqw", "cqh", "cqi", "cqb", "cqmin", "cqmax")
}

// someQuery is a query's text.
func someQuery(c *chance) string {
	one := func() string {
		n := strconv.Itoa(c.below(60)) + "px"
		return oneOf(c, "(width > "+n+")", "(width < "+n+")", "(min-width: "+n+")", "(inline-size <= "+n+")", "(height >= "+n+")", "(height < "+n+")", "(block-size > "+n+")", "(aspect-ratio > 1)", "(orientation: portrait)", "(width)", "(height)", "(5px < width < "+n+")")
	}
	s := oneOf(c, one(), one(), one(), "not "+one(), one()+" and "+one(), one()+" or "+one())
	return oneOf(c, "", "", "", "", "", "", "x ", "y ") + s
}

// someDecl is a declaration's text.
func someDecl(c *chance) string {
	s := oneOf(c,
		"container-type:"+oneOf(c, "inline-size", "inline-size", "size", "size", "normal", "inherit"),
		"container:"+oneOf(c, "x", "y", "none")+"/"+oneOf(c, "inline-size", "size"),
		"display:"+oneOf(c, "block", "flex", "flex", "none"),
		oneOf(c, "width:", "height:", "min-width:", "max-height:", "padding:", "border-width:", "margin-top:", "margin-left:", "flex-basis:", "font-size:", "gap:")+someLength(c),
		oneOf(c, "width:", "height:")+someLength(c),
		"order:"+strconv.Itoa(c.below(5)-2),
		oneOf(c, "flex-direction:column", "flex-direction:row-reverse", "flex-wrap:wrap", "flex:1", "flex-grow:2", "align-items:start", "align-self:center", "justify-content:center", "aspect-ratio:2", "box-sizing:border-box", "width:min-content", "margin:auto", "font-size:inherit", "width:inherit", "line-height:2"),
	)
	return s + oneOf(c, "", "", "", "!important") + ";"
}

// someRule is a rule's text, within at most so many queries.
func someRule(c *chance, conds int) string {
	tag := func() string { return oneOf(c, "a", "b", "c", "d", "*", ".x", ".y") }
	s := oneOf(c, tag(), tag(), tag(), tag()+" "+tag(), tag()+" > "+tag(), tag()+" + "+tag(), tag()+" ~ "+tag(), tag()+":first-child", tag()+":last-child, "+tag(), ":root") + "{"
	for range 1 + c.below(4) {
		s += someDecl(c)
	}
	s += "}"
	for range c.below(conds + 1) {
		s = "@container " + someQuery(c) + "{" + s + "}"
	}
	return s
}

// someRules are n rules that look like chance, of both origins.
func someRules(t *testing.T, c *chance, n int) []api.Rule {
	t.Helper()
	var s [2]strings.Builder
	for range oneOf(c, 0, 1, 2) {
		s[1].WriteString(oneOf(c, "a", "b", "c", "d", ".x", ".y", "*") + "{container:" + oneOf(c, "x", "y", "none") + "/" + oneOf(c, "inline-size", "size") + "}")
	}
	for range n {
		s[min(1, c.below(5))].WriteString(someRule(c, oneOf(c, 0, 1, 1, 3)))
	}
	return append(rulesOf(t, s[0].String(), 0), rules(t, s[1].String())...)
}

// someView is a window, mostly a small one.
func someView(c *chance) api.View {
	side := func() int { return oneOf(c, c.below(100), c.below(100), c.below(100), 0, -3) }
	return window(side(), side())
}

// ends are numbers at which something may change.
func ends() []int {
	return []int{lowest, -api.MaxLen - 1, -api.MaxLen, 1 - api.MaxLen, -64, -1, 0, 1, 64, 1000, api.MaxLen - 1, api.MaxLen, api.MaxLen + 1, 1<<32 + 1, highest}
}

// wildDecl is any declaration that is taken, of the greatest numbers, too.
func wildDecl(c *chance) api.Decl {
	for {
		v := api.Value{Kind: 1 + c.below(api.Name)}
		number := func() int { return oneOf(c, ends()...) }
		switch v.Kind {
		case api.Word:
			v.N = 1 + c.below(50)
		case api.Length:
			v.N, v.D = number(), 1+c.below(api.Cqmax)
		case api.Ratio:
			v.N, v.D = number(), number()
		case api.Name:
			v.Name = oneOf(c, "x", "y")
		default:
			v.N = number()
		}
		if d := (api.Decl{Prop: 1 + c.below(prop.Count), Value: v, Important: c.below(5) == 0}); value.Right(v) && prop.Takes(d.Prop, v) {
			return d
		}
	}
}

// wildRules are n rules with declarations of the greatest numbers.
func wildRules(t *testing.T, c *chance, n int) []api.Rule {
	t.Helper()
	l := someRules(t, c, n)
	for i := range l {
		for range c.below(6) {
			l[i].Decls = append(l[i].Decls, wildDecl(c))
		}
		for _, q := range l[i].Conds {
			for k := range q.Nodes {
				if b := &q.Nodes[k].Hi; b.Op != 0 && q.Nodes[k].Feature <= api.BlockSize {
					b.N = oneOf(c, b.N, b.N, -api.MaxLen, 0, api.MaxLen)
				}
			}
		}
	}
	return l
}

// wildView is a window of the greatest sizes, and beyond.
func wildView(c *chance) api.View {
	return api.View{W: oneOf(c, ends()...), H: oneOf(c, ends()...)}
}
