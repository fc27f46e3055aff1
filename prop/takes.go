package prop

import (
	"slices"

	"wainscot/api"
	"wainscot/property"
	"wainscot/value"
)

// Takes tells whether a property takes a value.
func Takes(p int, v api.Value) bool {
	return Name(p) != "" && value.Right(v) && (general(v) || takes(p, v))
}

// general tells whether a value is one of the words that every property takes.
func general(v api.Value) bool {
	return is(v, "inherit", "initial", "unset")
}

// takes tells whether a property takes a right value that not every one takes.
func takes(p int, v api.Value) bool {
	return is(v, property.Words(p)...) || takesBeside(p, v)
}

// takesBeside tells whether a property takes a value beside its words.
func takesBeside(p int, v api.Value) bool {
	switch p {
	case property.Width, property.MinWidth, property.MaxWidth,
		property.Height, property.MinHeight, property.MaxHeight,
		property.PaddingTop, property.PaddingRight, property.PaddingBottom, property.PaddingLeft,
		property.FlexBasis, property.RowGap, property.ColumnGap, property.FontSize:
		return extent(v) && up(v)
	case property.MarginTop, property.MarginRight, property.MarginBottom, property.MarginLeft:
		return extent(v)
	case property.BorderTopWidth, property.BorderRightWidth, property.BorderBottomWidth, property.BorderLeftWidth:
		return v.Kind == api.Length && up(v)
	case property.AspectRatio:
		return ratio(v)
	case property.FlexGrow, property.FlexShrink, property.LineHeight:
		return v.Kind == api.Number && up(v)
	case property.Order:
		return v.Kind == api.Number && v.N%one == 0
	case property.ContainerName:
		return v.Kind == api.Name
	}
	return false
}

// is tells whether a value is one of some words.
func is(v api.Value, words ...string) bool {
	return v.Kind == api.Word && slices.Contains(words, value.Text(v.N))
}

// up tells whether a value's number is not below 0.
func up(v api.Value) bool {
	return v.N >= 0
}

// extent tells whether a value is a length or a percentage.
func extent(v api.Value) bool {
	return v.Kind == api.Length || v.Kind == api.Percent
}

// ratio tells whether a value is a ratio of two above 0, or a number above 0.
func ratio(v api.Value) bool {
	return v.N > 0 && (v.Kind == api.Number || v.Kind == api.Ratio && v.D > 0)
}
