package align

import (
	"wainscot/fix"
	"wainscot/share"
)

// The ways of justify-content.
const (
	start = iota
	end
	center
	spaceBetween
	spaceAround
	spaceEvenly
)

// The way that align-content and align-items have ahead of these.
const stretch = 0

// justified answers the way of justify-content that a way of align-content or align-items is: of stretch, and of a number that is none, start.
func justified(way int) int {
	if way <= stretch {
		return start
	}
	return way - 1
}

// ahead answers what of all that is free stands ahead of all others.
func ahead(free, way int) int {
	switch way {
	case end:
		return free
	case center:
		return fix.Part(free, 1, 2)
	}
	return 0
}

// spread answers what the spaces at both ends weigh, and those between: nothing, where they are not dealt to.
func spread(way int) (int, int) {
	ends, inner := 0, 0
	switch way {
	case spaceAround:
		inner++
		fallthrough
	case spaceEvenly:
		ends++
		fallthrough
	case spaceBetween:
		inner++
	}
	return ends, inner
}

// deal deals what is free to so many, each of which weighs what it is told to.
func deal(free, n int, weight func(i int) int) []int {
	weights := make([]int, n)
	for i := range weights {
		weights[i] = weight(i)
	}
	return share.Deal(free, weights)
}
