package style

import (
	"slices"

	"wainscot/api"
	"wainscot/fix"
	"wainscot/holder"
	"wainscot/property"
)

const (
	// thousand is how many parts a number's whole one has.
	thousand = 1000
	// normalLine is how high a line is of which nothing else is told, in thousandths of the em.
	normalLine = 1200
)

// maker makes a style. It begins as the parent's: whatever is not put there stays as the parent has it.
type maker struct {
	api.Style
	// w and h are the bases.
	w, h int
}

// measure answers what a length measures.
func (m *maker) measure(v api.Value) int {
	return holder.Measure(v, m.Font, m.w, m.h)
}

// up answers what a length measures that is at least 0, even where the em or a base is below.
func (m *maker) up(v api.Value) int {
	return max(0, m.measure(v))
}

// font answers an em, by the one that stands in the style.
func (m *maker) font(v api.Value) int {
	if v.Kind == api.Percent {
		return max(0, fix.Percent(m.Font, v.N))
	}
	return m.up(v)
}

// put puts what a property's value comes to. (It puts no em: lengths are measured by that already.)
func (m *maker) put(p int, v api.Value) {
	switch p {
	case property.Display:
		m.Display = place(p, v)
	case property.BoxSizing:
		m.Border = word(v) == "border-box"
	case property.Width:
		m.W = size(v, m.up)
	case property.Height:
		m.H = size(v, m.up)
	case property.MinWidth:
		m.MinW = size(v, m.up)
	case property.MinHeight:
		m.MinH = size(v, m.up)
	case property.MaxWidth:
		m.MaxW = size(v, m.up)
	case property.MaxHeight:
		m.MaxH = size(v, m.up)
	case property.MarginTop, property.MarginRight, property.MarginBottom, property.MarginLeft:
		m.Margin[p-property.MarginTop] = size(v, m.measure)
	case property.PaddingTop, property.PaddingRight, property.PaddingBottom, property.PaddingLeft:
		m.Pad[p-property.PaddingTop] = size(v, m.up)
	case property.BorderTopWidth, property.BorderRightWidth, property.BorderBottomWidth, property.BorderLeftWidth:
		m.Edge[p-property.BorderTopWidth] = m.up(v)
	case property.AspectRatio:
		m.RatioN, m.RatioD = ratio(v)
	case property.LineHeight:
		m.Line = line(v)
	case property.ContainerType:
		m.Type = place(p, v)
	case property.ContainerName:
		// The word none has no name.
		m.Name = v.Name
	default:
		m.putFlex(p, v)
	}
}

// putFlex puts what a property of flex boxes and their items comes to.
func (m *maker) putFlex(p int, v api.Value) {
	switch p {
	case property.FlexDirection:
		m.Dir = place(p, v)
	case property.FlexWrap:
		m.Wrap = place(p, v)
	case property.FlexGrow:
		m.Grow = v.N
	case property.FlexShrink:
		m.Shrink = v.N
	case property.FlexBasis:
		m.Basis = size(v, m.up)
	case property.Order:
		m.Order = v.N / thousand
	case property.JustifyContent:
		m.Justify = place(p, v)
	case property.AlignItems:
		m.Items = place(p, v)
	case property.AlignSelf:
		m.Self = place(p, v)
	case property.AlignContent:
		m.Content = place(p, v)
	case property.RowGap:
		m.RowGap = size(v, m.up)
	case property.ColumnGap:
		m.ColGap = size(v, m.up)
	}
}

// place answers the place of a word among those that its property takes.
func place(p int, v api.Value) int {
	return slices.Index(property.Words(p), word(v))
}

// size answers what a size comes to: what a length measures is told by who is handed on.
func size(v api.Value, measure func(v api.Value) int) api.Size {
	switch v.Kind {
	case api.Length:
		return api.Size{Kind: api.Fixed, N: measure(v)}
	case api.Percent:
		return api.Size{Kind: api.Share, N: v.N}
	}
	return api.Size{Kind: called(word(v))}
}

// called answers the kind of a size that is a word.
func called(s string) int {
	switch s {
	case "none":
		return api.None
	case "min-content":
		return api.MinCont
	case "max-content", "content":
		return api.MaxCont
	case "fit-content":
		return api.FitCont
	case "normal":
		// Of a gap: it is 0 long.
		return api.Fixed
	}
	return api.Auto
}

// ratio answers what a ratio comes to: of a number, it to one.
func ratio(v api.Value) (int, int) {
	switch v.Kind {
	case api.Number:
		return v.N, thousand
	case api.Ratio:
		return v.N, v.D
	}
	return 0, 0
}

// line answers how high a line is.
func line(v api.Value) int {
	if v.Kind == api.Number {
		return v.N
	}
	return normalLine
}
