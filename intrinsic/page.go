package intrinsic

import (
	"wainscot/api"
	"wainscot/fix"
	"wainscot/kin"
	"wainscot/sizing"
	"wainscot/words"
)

// unknown is the Base of a case of which nobody knows how high its room is.
const unknown = -1

// page is nodes with their styles.
type page struct {
	nodes  []api.Node
	styles []api.Style
}

// style answers a node's style: the zero one, if it has none.
func (p page) style(i int) api.Style {
	if !kin.Has(p.nodes, i) || i >= len(p.styles) {
		return api.Style{}
	}
	return p.styles[i]
}

// flows tells whether a node stands in the flow.
func (p page) flows(i int) bool {
	if !kin.Has(p.nodes, i) {
		return false
	}
	if kin.Element(p.nodes[i]) {
		return p.style(i).Display != api.Hidden
	}
	return len(words.Split(p.nodes[i].Text)) > 0
}

// own answers the widths of an element's content, of all else none. It goes back from the last node, as kids stand behind their parents: so no node stands too deep for it.
func (p page) own(i int) widths {
	if !p.asks(i) {
		return widths{}
	}
	kids := p.kids(i)
	contents := make([]widths, len(p.nodes))
	outer := func(k int) widths { return p.outer(k, contents[k]) }
	for k := len(p.nodes) - 1; k >= i; k-- {
		if len(kids[k]) > 0 {
			contents[k] = gather(kids[k], outer, joining(p.style(k)))
		}
	}
	return contents[i]
}

// kids answers the kids of a node, and of each one beneath it on whose kids its widths hang; of all others none.
func (p page) kids(i int) [][]int {
	kids := make([][]int, len(p.nodes))
	asks := make([]bool, len(p.nodes))
	asks[i] = p.asks(i)
	for k := i + 1; k < len(p.nodes); k++ {
		up := kin.Parent(p.nodes, k)
		if up != kin.None && asks[up] && p.flows(k) {
			kids[up] = append(kids[up], k)
			asks[k] = p.asks(k)
		}
	}
	return kids
}

// asks tells whether a node is an element that asks its kids how wide they are: who holds does not.
func (p page) asks(i int) bool {
	if !kin.Has(p.nodes, i) || !kin.Element(p.nodes[i]) {
		return false
	}
	kind := p.style(i).Type
	return kind != api.InlineBox && kind != api.SizeBox
}

// outer answers a node's outer widths; those of its content it is told.
func (p page) outer(i int, content widths) widths {
	if !kin.Has(p.nodes, i) {
		return widths{}
	}
	if !kin.Element(p.nodes[i]) {
		low, high := words.Extremes(p.nodes[i].Text, p.em(i))
		return widths{low, high}
	}
	c := caseOf(Bare(p.style(i)), 0, unknown, content)
	f := sizing.Of(c)
	wide := kept(c)
	return widths{c.Least, c.Most}.each(func(n int) int {
		n = fix.Add(wide(n), f.Margin[api.Left])
		return max(0, fix.Add(n, f.Margin[api.Right]))
	})
}

// em answers the em of a node's parent.
func (p page) em(i int) int {
	return max(0, p.style(kin.Parent(p.nodes, i)).Font)
}

// caseOf answers a style's case in a room; the widths of its content it is told.
func caseOf(s api.Style, avail, base int, content widths) sizing.Case {
	c := sizing.Case{Style: s, Avail: fix.Hold(avail), Base: fix.Hold(base)}
	across, _ := sizing.Around(c)
	w := content.each(func(n int) int { return fix.Add(n, across) })
	c.Least, c.Most = w[least], w[most]
	return c
}

// kept answers how wide a bare case is that would be so wide by itself.
func kept(c sizing.Case) func(n int) int {
	_, said := sizing.SaysW(c, c.Style.W)
	_, given := sizing.Given(c)
	if said || given && c.Style.RatioN > 0 && c.Style.RatioD > 0 {
		return func(int) int { return sizing.Wide(c) }
	}
	return func(n int) int { return sizing.KeepW(c, n) }
}
