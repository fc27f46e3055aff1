package prop

import (
	"slices"

	"wainscot/api"
	"wainscot/property"
)

// The shorthands whose values do not stand on sides.
const (
	flexFlow  = "flex-flow"
	flex      = "flex"
	container = "container"
)

// standsFor answers the first one of the properties that a name stands for, and how many there are: they follow on one another.
func standsFor(name string) (int, int) {
	switch name {
	case "margin":
		return property.MarginTop, 4
	case "padding":
		return property.PaddingTop, 4
	case "border-width":
		return property.BorderTopWidth, 4
	case flexFlow:
		return property.FlexDirection, 2
	case flex:
		return property.FlexGrow, 3
	case "gap":
		return property.RowGap, 2
	case container:
		return property.ContainerType, 2
	}
	p := Named(name)
	return p, min(p, 1)
}

// sides answers who tells what stands on each side, from the values that a declaration of a name tells.
func sides(name string, told []api.Value) func(i int) api.Value {
	switch {
	case general(told[0]):
		// It stands alone, and so on all sides.
	case name == flexFlow:
		told = flow(told)
	case name == flex:
		told = flexible(told)
	case name == container:
		told = []api.Value{second(told, property.ContainerType), told[0]}
	}
	return func(i int) api.Value {
		// A side that is not told is as the one across, and Right as Top.
		for i >= len(told) {
			i = max(i-2, api.Top)
		}
		return told[i]
	}
}

// second answers the second one of one value or two, or, where it is not told, what its property has at first.
func second(told []api.Value, p int) api.Value {
	if len(told) > 1 {
		return told[1]
	}
	return First(p)
}

// flow answers a direction and a wrap, in whichever order they are told.
func flow(told []api.Value) []api.Value {
	if Takes(property.FlexDirection, told[0]) {
		return []api.Value{told[0], second(told, property.FlexWrap)}
	}
	return []api.Value{second(told, property.FlexDirection), told[0]}
}

// flexible answers how a box grows, how it shrinks, and its basis.
func flexible(told []api.Value) []api.Value {
	last := len(told) - 1
	if last == 0 && is(told[0], "none") {
		return []api.Value{number(0), number(0), word("auto")}
	}
	numbers, basis := told, px(0)
	if Takes(property.FlexBasis, told[0]) {
		numbers, basis = told[1:], told[0]
	} else if Takes(property.FlexBasis, told[last]) {
		numbers, basis = told[:last], told[last]
	}
	numbers = slices.Clone(numbers)
	for len(numbers) < 2 {
		numbers = append(numbers, number(one))
	}
	// A third number stands where the basis should, and is none.
	return append(numbers, basis)
}
