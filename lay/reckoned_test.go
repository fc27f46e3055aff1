package lay_test

import (
	"sort"

	"wainscot/align"
	"wainscot/api"
	"wainscot/axis"
	"wainscot/fix"
	"wainscot/flexline"
	"wainscot/intrinsic"
	"wainscot/sizing"
	"wainscot/strut"
	"wainscot/style"
	"wainscot/words"
)

// The chapter's words, one by one.

// sums are all one behind the other.
func sums(l ...int) int {
	all := fix.Hold(l[0])
	for _, n := range l[1:] {
		all = fix.Add(all, n)
	}
	return all
}

// less is the first one less all others, one behind the other.
func less(l ...int) int {
	rest := fix.Hold(l[0])
	for _, n := range l[1:] {
		rest = fix.Sub(rest, n)
	}
	return rest
}

// reckoner lays out a page. X and Y are how far boxes begin from their parents' until the end.
type reckoner struct {
	l     []api.Node
	s     []api.Style
	boxes []api.Box
	trace
}

// out is what a box is told to be.
type out struct {
	h          int
	head, foot strut.Strut
	through    bool
}

// reckoned are the boxes of a tree, and what is told of it.
func reckoned(l []api.Node, s []api.Style, v api.View) ([]api.Box, string) {
	r := &reckoner{l: l, s: s, boxes: make([]api.Box, len(l))}
	if intrinsic.Flows(l, s, 0) {
		c := intrinsic.Case(l, s, 0, v.W, v.H)
		w := sizing.Wide(c)
		r.layOut(0, c, w, nil, true)
		r.boxes[0].X, _ = sizing.Sides(c, w)
		r.boxes[0].Y = sizing.Of(c).Margin[api.Top]
	}
	for i := 1; i < len(l); i++ {
		if up := r.boxes[l[i].Parent]; r.boxes[i].Shown {
			r.boxes[i].X, r.boxes[i].Y = fix.Add(up.X, r.boxes[i].X), fix.Add(up.Y, r.boxes[i].Y)
		}
	}
	return r.boxes, r.String()
}

// layOut lays out an element, with a height, if one is told.
func (r *reckoner) layOut(i int, c sizing.Case, w int, told *int, apart bool) out {
	across, down := sizing.Around(c)
	room, base, h := max(0, fix.Sub(w, across)), -1, 0
	given, known := sizing.Given(c)
	if known {
		base = max(0, fix.Sub(given, down))
	}
	if c.Style.Type == api.SizeBox {
		h = sizing.High(c, w, 0)
		if told != nil {
			h = *told
		}
		base = max(0, fix.Sub(h, down))
		r.seal(i, room, base)
	} else if c.Style.Type == api.InlineBox {
		r.seal(i, room, 0)
	}
	total := func(content int) int {
		if c.Style.Type == api.SizeBox {
			return h
		}
		return sizing.High(c, w, content)
	}
	var o out
	switch {
	case c.Style.Display == api.Flex && (c.Style.Dir == axis.Column || c.Style.Dir == axis.ColumnBack):
		o.h = r.column(i, c, room, base, total)
	case c.Style.Display == api.Flex:
		o.h = r.row(i, c, room, base, total)
	default:
		o = r.block(i, c, room, base, apart || c.Style.Type == 1 || c.Style.Type == 2)
		o.h = total(o.h)
	}
	r.boxes[i].Shown, r.boxes[i].W, r.boxes[i].H = true, w, o.h
	return o
}

// ahead is what is ahead of a box's content.
func ahead(c sizing.Case) (int, int) {
	f := sizing.Of(c)
	return sums(f.Pad[3], f.Edge[3]), sums(f.Pad[0], f.Edge[0])
}

// writes breaks words of a parent's style into lines of a room.
func (r *reckoner) writes(k int, s api.Style, room int) (int, int) {
	lines := words.Break(r.l[k].Text, max(0, s.Font), room)
	widest := 0
	for _, n := range lines {
		widest = max(widest, n.W)
	}
	r.boxes[k].Shown, r.boxes[k].Lines = true, len(lines)
	return widest, words.Tall(len(lines), max(0, s.Font), s.Line)
}

// block stacks kids; the height that it answers is its content's.
func (r *reckoner) block(i int, c sizing.Case, room, base int, apart bool) out {
	f := sizing.Of(c)
	_, given := sizing.Given(c)
	ratio := c.Style.RatioN > 0 && c.Style.RatioD > 0
	top := !apart && f.Pad[0] == 0 && f.Edge[0] == 0
	bottom := !apart && f.Pad[2] == 0 && f.Edge[2] == 0 && !given && !ratio && c.Style.MinH.Kind == api.Auto
	kids := intrinsic.Kids(r.l, r.s, i)
	var parts []strut.Part
	var lefts []int
	for _, k := range kids {
		if r.l[k].Tag == "" {
			w, h := r.writes(k, c.Style, room)
			r.boxes[k].W, r.boxes[k].H = w, h
			parts, lefts = append(parts, strut.Part{H: h}), append(lefts, 0)
			continue
		}
		kc := intrinsic.Case(r.l, r.s, k, room, base)
		w := sizing.Wide(kc)
		o := r.layOut(k, kc, w, nil, false)
		m := sizing.Of(kc).Margin
		parts = append(parts, strut.Part{Top: strut.Join(strut.Of(m[0]), o.head), Bottom: strut.Join(strut.Of(m[2]), o.foot), H: o.h, Through: o.through})
		left, _ := sizing.Sides(kc, w)
		lefts = append(lefts, left)
	}
	stack := strut.Put(parts, top, bottom)
	x, y := ahead(c)
	for n, k := range kids {
		r.boxes[k].X, r.boxes[k].Y = fix.Add(x, lefts[n]), fix.Add(y, stack.At[n])
	}
	return out{stack.H, stack.Head, stack.Foot, stack.Through}
}

// one is an item of a flex box: sizes and places go along and across.
type one struct {
	k                          int
	c                          sizing.Case
	way                        int
	f                          flexline.Item
	long, deep                 int
	from, side                 int
	ahead, behind              int
	autoAhead, autoBehind      bool
	ahead2, behind2            int
	autoAhead2, autoBehind2    bool
	given, ratio, words, sized bool
}

// ones are the items of a box.
func (r *reckoner) ones(i int, c sizing.Case, room, base int, upright bool) []*one {
	var l []*one
	for _, k := range intrinsic.Kids(r.l, r.s, i) {
		t := &one{k: k, words: r.l[k].Tag == ""}
		if t.words {
			s := style.Start()
			s.Font, s.Line = max(0, c.Style.Font), c.Style.Line
			t.c = sizing.Case{Style: s, Avail: room, Base: base}
			t.c.Least, t.c.Most = words.Extremes(r.l[k].Text, max(0, c.Style.Font))
		} else {
			t.c = intrinsic.Case(r.l, r.s, k, room, base)
		}
		f := sizing.Of(t.c)
		t.ahead, t.behind, t.autoAhead, t.autoBehind = f.Margin[3], f.Margin[1], f.Auto[3], f.Auto[1]
		t.ahead2, t.behind2, t.autoAhead2, t.autoBehind2 = f.Margin[0], f.Margin[2], f.Auto[0], f.Auto[2]
		if upright {
			t.ahead, t.behind, t.autoAhead, t.autoBehind, t.ahead2, t.behind2, t.autoAhead2, t.autoBehind2 = t.ahead2, t.behind2, t.autoAhead2, t.autoBehind2, t.ahead, t.behind, t.autoAhead, t.autoBehind
		}
		if t.way = c.Style.Items; t.c.Style.Self > 0 {
			t.way = t.c.Style.Self - 1
		}
		_, t.given = sizing.Given(t.c)
		t.ratio = t.c.Style.RatioN > 0 && t.c.Style.RatioD > 0
		t.sized = t.c.Style.Type == api.SizeBox
		l = append(l, t)
	}
	sort.SliceStable(l, func(a, b int) bool { return l[a].c.Style.Order < l[b].c.Style.Order })
	return l
}

// gapOf is a gap, of a base.
func gapOf(z api.Size, base int) int {
	if z.Kind == api.Fixed {
		return max(0, fix.Hold(z.N))
	}
	if z.Kind == api.Share && base >= 0 {
		return max(0, fix.Percent(base, z.N))
	}
	return 0
}

// own is an item's own height, of a width.
func (r *reckoner) own(t *one, s api.Style, w int) int {
	if t.words {
		_, h := r.writes(t.k, s, w)
		return h
	}
	if t.sized {
		return sizing.High(t.c, w, 0)
	}
	return r.layOut(t.k, t.c, w, nil, true).h
}

// place is a place in a room.
func place(t *one, room int) int {
	if !t.autoAhead2 && !t.autoBehind2 {
		return sums(t.ahead2, align.Offset(t.way, less(room, t.ahead2, t.behind2), t.deep))
	}
	return sums(t.ahead2, align.Autos(less(room, t.ahead2, t.behind2, t.deep), []bool{t.autoAhead2, t.autoBehind2})[0])
}

// follow puts items along their line.
func follow(l []*one, room, gap, way int) {
	gaps := 0
	for n := 1; n < len(l); n++ {
		gaps = fix.Add(gaps, gap)
	}
	free := fix.Sub(room, gaps)
	var autos []bool
	for _, t := range l {
		free = less(free, t.long, t.ahead, t.behind)
		autos = append(autos, t.autoAhead, t.autoBehind)
	}
	given := align.Autos(free, autos)
	for _, n := range given {
		free = fix.Sub(free, n)
	}
	spaces := align.Spaces(free, len(l), way)
	p := 0
	for n, t := range l {
		if n > 0 {
			p = fix.Add(p, gap)
		}
		t.from = sums(p, spaces[n], t.ahead, given[2*n])
		p = sums(t.from, t.long, t.behind, given[2*n+1])
	}
}

// froze resolves items in a room less their gaps.
func (r *reckoner) froze(i int, l []*one, room, gap int) {
	var f []flexline.Item
	for n, t := range l {
		if n > 0 {
			room = fix.Sub(room, gap)
		}
		f = append(f, t.f)
	}
	lengths, rounds := flexline.Resolve(f, room)
	for n, t := range l {
		t.long = lengths[n]
	}
	r.frozen(i, rounds)
}

// asRow makes an item one of a row.
func asRow(t *one) {
	s := t.c.Style
	z := s.Basis
	if z.Kind == api.Auto || z.Kind == api.None {
		z = s.W
	}
	begins, says := sizing.SaysW(t.c, z)
	if !says && t.given && t.ratio {
		c := t.c
		c.Style.MinW, c.Style.MaxW, c.Style.W = kind(api.None), kind(api.None), kind(api.None)
		begins = sizing.Wide(c)
	} else if !says {
		begins = max(0, t.c.Most)
	}
	least, says := sizing.SaysW(t.c, s.MinW)
	if !says {
		least = max(0, t.c.Least)
		if n, says := sizing.SaysW(t.c, s.W); says && n < least {
			least = n
		}
		if n, says := sizing.SaysW(t.c, s.MaxW); says && n < least {
			least = n
		}
	}
	most, says := sizing.SaysW(t.c, s.MaxW)
	if !says {
		most = -1
	}
	across, _ := sizing.Around(t.c)
	t.f = flexline.Item{Base: begins, Least: max(least, across), Most: most, Margin: sums(t.ahead, t.behind), Inner: max(0, less(begins, across)), Grow: s.Grow, Shrink: s.Shrink}
}

// row lays out a row, and answers the box's height.
func (r *reckoner) row(i int, c sizing.Case, room, base int, total func(int) int) int {
	s := c.Style
	between, apart := gapOf(s.ColGap, room), gapOf(s.RowGap, base)
	var lines [][]*one
	takes := 0
	for _, t := range r.ones(i, c, room, base, false) {
		asRow(t)
		wish := sums(flexline.Wish(t.f), t.f.Margin)
		if len(lines) > 0 && (s.Wrap == 0 || sums(takes, between, wish) <= room) {
			lines[len(lines)-1] = append(lines[len(lines)-1], t)
			takes = sums(takes, between, wish)
		} else {
			lines = append(lines, []*one{t})
			takes = wish
		}
	}
	sizes := make([]int, len(lines))
	for n, l := range lines {
		r.froze(i, l, room, between)
		for _, t := range l {
			t.deep = r.own(t, s, t.long)
			sizes[n] = max(sizes[n], sums(t.deep, sums(t.ahead2, t.behind2)))
		}
	}
	content := sums(append([]int{0}, sizes...)...)
	for n := 1; n < len(lines); n++ {
		content = sums(content, apart)
	}
	h := total(content)
	_, down := sizing.Around(c)
	high := max(0, less(h, down))
	begins := make([]int, len(lines))
	if s.Wrap == 0 {
		for n := range sizes {
			sizes[n] = high
		}
	} else {
		free := less(append([]int{high}, sizes...)...)
		for n := 1; n < len(lines); n++ {
			free = less(free, apart)
		}
		added, spaces := align.Lines(free, len(lines), s.Content)
		p := 0
		for n := range lines {
			if n > 0 {
				p = sums(p, apart)
			}
			begins[n] = sums(p, spaces[n])
			sizes[n] = sums(sizes[n], added[n])
			p = sums(begins[n], sizes[n])
		}
	}
	for n, l := range lines {
		follow(l, room, between, s.Justify)
		for _, t := range l {
			if t.way == 0 && !t.given && !t.ratio && !t.autoAhead2 && !t.autoBehind2 {
				t.deep = sizing.KeepH(t.c, less(sizes[n], sums(t.ahead2, t.behind2)))
			}
			t.side = sums(begins[n], place(t, sizes[n]))
			r.stand(t, c, room, high, t.long, t.deep)
		}
	}
	return h
}

// column lays out a column, and answers the box's height.
func (r *reckoner) column(i int, c sizing.Case, room, base int, total func(int) int) int {
	s := c.Style
	gap := gapOf(s.RowGap, base)
	l := r.ones(i, c, room, base, true)
	content := 0
	for n, t := range l {
		k := t.c
		if w := k.Style.W.Kind; (w == api.Auto || w == api.None) && (t.way != 0 || t.autoAhead2 || t.autoBehind2) && !(t.given && t.ratio) {
			k.Style.W = kind(api.FitCont)
		}
		t.deep = sizing.Wide(k)
		own := r.own(t, s, t.deep)
		begins, says := sizing.SaysH(t.c, t.c.Style.Basis)
		if !says {
			begins = own
		}
		_, down := sizing.Around(t.c)
		least, _ := sizing.SaysH(t.c, t.c.Style.MinH)
		most, says := sizing.SaysH(t.c, t.c.Style.MaxH)
		if !says {
			most = -1
		}
		t.f = flexline.Item{Base: begins, Least: max(least, down), Most: most, Margin: sums(t.ahead, t.behind), Inner: max(0, less(begins, down)), Grow: t.c.Style.Grow, Shrink: t.c.Style.Shrink}
		if n > 0 {
			content = sums(content, gap)
		}
	}
	for _, t := range l {
		content = sums(content, flexline.Wish(t.f), t.f.Margin)
	}
	h := total(content)
	_, down := sizing.Around(c)
	high := max(0, less(h, down))
	r.froze(i, l, high, gap)
	follow(l, high, gap, s.Justify)
	for _, t := range l {
		t.side = place(t, room)
		r.stand(t, c, room, high, t.deep, t.long)
	}
	return h
}

// stand puts an item, of a last width and height, into the content of a box.
func (r *reckoner) stand(t *one, c sizing.Case, room, high, w, h int) {
	if t.sized {
		r.layOut(t.k, t.c, w, &h, true)
	}
	x, y, s := t.from, t.side, c.Style
	if s.Dir == axis.Column || s.Dir == axis.ColumnBack {
		x, y = y, x
	}
	if s.Dir == axis.RowBack || s.Wrap == 2 && s.Dir >= axis.Column && s.Dir <= axis.ColumnBack {
		x = less(room, x, w)
	}
	if s.Dir == axis.ColumnBack || s.Wrap == 2 && (s.Dir < axis.Column || s.Dir > axis.ColumnBack) {
		y = less(high, y, h)
	}
	left, top := ahead(c)
	b := &r.boxes[t.k]
	b.X, b.Y, b.W, b.H = fix.Add(left, x), fix.Add(top, y), w, h
}
