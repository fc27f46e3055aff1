package prop

import (
	"slices"

	"wainscot/api"
	"wainscot/value"
)

// Takes tells whether a property takes a value.
func Takes(p int, v api.Value) bool {
	return Name(p) != "" && value.Right(v) && (general(v) || takes(p, v))
}

// general tells whether a value is one of the words that every property takes.
func general(v api.Value) bool {
	return is(v, "inherit", "initial", "unset")
}

// takes tells whether a property takes a right value that not every one takes.
func takes(p int, v api.Value) bool {
	switch p {
	case display:
		return is(v, "block", "flex", "none")
	case boxSizing:
		return is(v, "content-box", "border-box")
	case width, minWidth:
		return extentUp(v) || is(v, "auto", "min-content", "max-content", "fit-content")
	case height, minHeight:
		return extentUp(v) || is(v, "auto")
	case maxWidth:
		return extentUp(v) || is(v, "none", "min-content", "max-content", "fit-content")
	case maxHeight:
		return extentUp(v) || is(v, "none")
	case marginTop, marginRight, marginBottom, marginLeft:
		return extent(v) || is(v, "auto")
	case paddingTop, paddingRight, paddingBottom, paddingLeft, fontSize:
		return extentUp(v)
	case borderTopWidth, borderRightWidth, borderBottomWidth, borderLeftWidth:
		return v.Kind == api.Length && up(v)
	case aspectRatio:
		return ratio(v) || is(v, "auto")
	case flexGrow, flexShrink:
		return numberUp(v)
	case flexBasis:
		return extentUp(v) || is(v, "auto", "content")
	case order:
		return v.Kind == api.Number && v.N%one == 0
	case rowGap, columnGap:
		return extentUp(v) || is(v, "normal")
	case containerName:
		return v.Kind == api.Name || is(v, "none")
	case lineHeight:
		return numberUp(v) || is(v, "normal")
	}
	return placed(p, v)
}

// placed tells whether a property that puts containers and items takes a value.
func placed(p int, v api.Value) bool {
	switch p {
	case flexDirection:
		return is(v, "row", "row-reverse", "column", "column-reverse")
	case flexWrap:
		return is(v, "nowrap", "wrap", "wrap-reverse")
	case justifyContent:
		return is(v, "start", "end", "center", "space-between", "space-around", "space-evenly")
	case alignItems:
		return is(v, "stretch", "start", "end", "center")
	case alignSelf:
		return is(v, "auto", "stretch", "start", "end", "center")
	case alignContent:
		return is(v, "stretch", "start", "end", "center", "space-between", "space-around", "space-evenly")
	case containerType:
		return is(v, "normal", "inline-size", "size")
	}
	return false
}

// is tells whether a value is one of some words.
func is(v api.Value, words ...string) bool {
	return v.Kind == api.Word && slices.Contains(words, value.Text(v.N))
}

// up tells whether a value's number is not below 0.
func up(v api.Value) bool {
	return v.N >= 0
}

// extent tells whether a value is a length or a percentage.
func extent(v api.Value) bool {
	return v.Kind == api.Length || v.Kind == api.Percent
}

// extentUp tells whether a value is an extent that is up.
func extentUp(v api.Value) bool {
	return extent(v) && up(v)
}

// numberUp tells whether a value is a number that is up.
func numberUp(v api.Value) bool {
	return v.Kind == api.Number && up(v)
}

// ratio tells whether a value is a ratio of two above 0, or a number above 0.
func ratio(v api.Value) bool {
	return v.N > 0 && (v.Kind == api.Number || v.Kind == api.Ratio && v.D > 0)
}
