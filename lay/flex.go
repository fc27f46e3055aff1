package lay

import (
	"cmp"
	"slices"

	"wainscot/api"
	"wainscot/axis"
	"wainscot/fix"
	"wainscot/flexline"
	"wainscot/intrinsic"
	"wainscot/kin"
	"wainscot/share"
	"wainscot/sizing"
	"wainscot/style"
	"wainscot/words"
)

const (
	// stretch is the way of align-items by which items are as large as their line.
	stretch = 0
	// single is the Wrap of a row that does not break, turned that of one whose lines go from the far side back.
	single = 0
	turned = 2
)

// row lays out kids beside one another, in lines.
func (k *walker) row(b *box) {
	items := k.items(b)
	for _, t := range items {
		t.inRow()
	}
	beside, between := gap(b.style.ColGap, b.room), gap(b.style.RowGap, b.base)
	lines := broken(items, b.room, beside, b.style.Wrap != single)
	for _, n := range lines {
		k.deepen(b, n, beside)
	}
	b.finish(tall(lines, between))
	if b.style.Wrap != single {
		spread(lines, b.inside(), between, b.style.Content)
	} else if len(lines) > 0 {
		lines[0].size = b.inside()
	}
	for _, n := range lines {
		along(n.items, b.room, beside, b.style.Justify)
		for _, t := range n.items {
			t.alignIn(n)
			k.stand(b, t)
		}
	}
}

// deepen resolves a line of a row, and tells how much it takes across by its items' own heights.
func (k *walker) deepen(b *box, n *line, gap int) {
	k.resolve(b, n.items, less(b.room, gap, len(n.items)))
	for _, t := range n.items {
		t.depth = k.own(b, t, t.length)
		n.size = max(n.size, fix.Add(t.depth, t.cross.both()))
	}
}

// column lays out kids one beneath the other, as long as there is room for.
func (k *walker) column(b *box) {
	items := k.items(b)
	gap := gap(b.style.RowGap, b.base)
	for _, t := range items {
		t.depth = t.across()
		t.inColumn(k.own(b, t, t.depth))
	}
	b.finish(wished(items, gap))
	k.resolve(b, items, less(b.inside(), gap, len(items)))
	along(items, b.inside(), gap, b.style.Justify)
	for _, t := range items {
		t.stands = t.cross.place(t.way, b.room, t.depth)
		k.stand(b, t)
	}
}

// wished answers how high items of a column are by their wishes, and the gaps between: these go first.
func wished(items []*item, gap int) int {
	all := gaps(gap, len(items))
	for _, t := range items {
		all = append(all, flexline.Wish(t.Item), t.Margin)
	}
	return share.Sum(all)
}

// items answers a flex box's, in the order in which they stand.
func (k *walker) items(b *box) []*item {
	var items []*item
	for _, i := range intrinsic.Kids(k.nodes, k.styles, b.node) {
		items = append(items, itemOf(i, k.caseOf(b, i), b.style))
	}
	slices.SortStableFunc(items, func(x, y *item) int {
		return cmp.Compare(x.style.Order, y.style.Order)
	})
	return items
}

// caseOf answers a kid's case in a box.
func (k *walker) caseOf(b *box, i int) sizing.Case {
	if kin.Element(k.nodes[i]) {
		return intrinsic.Case(k.nodes, k.styles, i, b.room, b.base)
	}
	c := sizing.Case{Style: style.Start(), Avail: b.room, Base: b.base}
	c.Style.Font, c.Style.Line = b.em(), b.style.Line
	c.Least, c.Most = words.Extremes(k.nodes[i].Text, b.em())
	return c
}

// resolve gives the items of a line their lengths in a room.
func (k *walker) resolve(b *box, items []*item, room int) {
	l := make([]flexline.Item, len(items))
	for i, t := range items {
		l[i] = t.Item
	}
	lengths, rounds := flexline.Resolve(l, room)
	for i, t := range items {
		t.length = lengths[i]
	}
	k.frozen(b.node, rounds)
}

// own answers an item's own height, of a width. All but a SizeBox, whose height may still change what stands in it, is laid out by that.
func (k *walker) own(b *box, t *item, w int) int {
	if !kin.Element(k.nodes[t.node]) {
		return k.write(b, t.node, w)
	}
	x := boxOf(t.node, t.of, w, true)
	if t.style.Type != api.SizeBox {
		k.layOut(x)
	}
	return x.h
}

// stand gives an item its last size and its place. What stands in it stays as it is, but in a SizeBox.
func (k *walker) stand(b *box, t *item) {
	way, size := b.style.Dir, axis.Of(t.length, t.depth)
	room := axis.Flow(way, axis.Of(b.room, b.inside()))
	from := axis.Put(way, b.style.Wrap == turned, room, axis.Of(t.begins, t.stands), size)
	k.places[t.node] = axis.Plus(b.ahead(), from)
	size = axis.Flow(way, size)
	if t.style.Type == api.SizeBox {
		x := boxOf(t.node, t.of, axis.X(size), true)
		x.h = axis.Y(size)
		k.layOut(x)
	}
	last := &k.boxes[t.node]
	last.W, last.H = axis.X(size), axis.Y(size)
}

// gap answers how wide a gap is, of a base.
func gap(z api.Size, base int) int {
	switch {
	case z.Kind == api.Fixed:
		return max(0, fix.Hold(z.N))
	case z.Kind == api.Share && base >= 0:
		return max(0, fix.Percent(base, z.N))
	}
	return 0
}
