package engine

import (
	"wainscot/api"
	"wainscot/cascade"
	"wainscot/holder"
	"wainscot/kin"
	"wainscot/style"
	"wainscot/tree"
	"wainscot/truth"
)

// descent styles a page from its first node on. Beneath a holder it goes on when that is sealed: not before is it known what is to be answered there.
type descent struct {
	api.Result
	nodes []api.Node
	rules []api.Rule
	view  api.View
	// extents are those of the holders that are sealed.
	extents []api.Extent
	// on tells of each rule whether it is on for the element that is being styled.
	on []bool
}

// descentOf answers a page's, of which nothing is styled yet.
func descentOf(l []api.Node, rules []api.Rule, v api.View) *descent {
	return &descent{
		Result: api.Result{
			Styles: make([]api.Style, len(l)),
			Truths: make([][]int, len(l)),
		},
		nodes:   l,
		rules:   rules,
		view:    v,
		extents: make([]api.Extent, len(l)),
		on:      make([]bool, len(rules)),
	}
}

// descend styles the elements from one node on, ahead of another one.
func (d *descent) descend(from, to int) {
	for i := from; i < to; i = d.next(i) {
		if kin.Element(d.nodes[i]) {
			d.ask(i)
			d.style(i)
		}
	}
}

// next answers who is styled behind a node. What stands beneath a holder has to wait; what stands beneath what is hidden never is.
func (d *descent) next(i int) int {
	if s := d.Styles[i]; s.Display == api.Hidden || s.Type != api.Normal {
		return tree.End(d.nodes, i)
	}
	return i + 1
}

// ask finds which rules are on for an element.
func (d *descent) ask(i int) {
	for r, rule := range d.rules {
		d.on[r] = len(rule.Conds) == 0 || d.asked(i, rule.Conds) == api.True
	}
}

// asked finds the truth of the next asking rule for an element.
func (d *descent) asked(i int, conds []api.Query) int {
	all := api.True
	for _, q := range conds {
		all = truth.And(all, holder.Truth(d.nodes, d.extents, i, q))
	}
	d.happens(api.Asked, i, len(d.Truths[i]))
	d.Truths[i] = append(d.Truths[i], all)
	return all
}

// style computes the style of an element, whose parent has its own already.
func (d *descent) style(i int) {
	parent := style.Start()
	if up := kin.Parent(d.nodes, i); up != kin.None {
		parent = d.Styles[up]
	}
	told := cascade.Told(d.nodes, i, d.rules, d.on)
	w, h := holder.Bases(d.nodes, d.extents, i, d.view)
	d.Styles[i] = style.Compute(told, parent, w, h)
	d.happens(api.Styled, i, 0)
}

// seal is told when a holder is, and goes on beneath it.
func (d *descent) seal(i, w, h int) {
	s := d.Styles[i]
	d.extents[i] = api.Extent{Type: s.Type, Name: s.Name, W: w, H: h}
	d.happens(api.Sized, i, 0)
	d.descend(i+1, tree.End(d.nodes, i))
}

// frozen is told when a line of a flex box is resolved.
func (d *descent) frozen(i, rounds int) {
	d.happens(api.Frozen, i, rounds)
}

// happens tells what was done.
func (d *descent) happens(kind, i, n int) {
	d.Events = append(d.Events, api.Event{Kind: kind, Node: i, N: n})
}
