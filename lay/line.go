package lay

import (
	"slices"

	"wainscot/align"
	"wainscot/fix"
	"wainscot/flexline"
	"wainscot/share"
)

// line is a line of a row.
type line struct {
	items []*item
	// takes is how long it is by its items' wishes.
	takes int
	// begins and size are where it begins across, and what it takes there.
	begins, size int
}

// broken answers the lines into which items break in a room, if they may.
func broken(items []*item, room, gap int, may bool) []*line {
	var lines []*line
	for _, t := range items {
		wish := fix.Add(flexline.Wish(t.Item), t.Margin)
		if len(lines) > 0 {
			last := lines[len(lines)-1]
			takes := fix.Add(fix.Add(last.takes, gap), wish)
			if !may || takes <= room {
				last.items, last.takes = append(last.items, t), takes
				continue
			}
		}
		lines = append(lines, &line{items: []*item{t}, takes: wish})
	}
	return lines
}

// tall answers how much lines take across, and the gaps between.
func tall(lines []*line, gap int) int {
	var all []int
	for _, n := range lines {
		all = append(all, n.size)
	}
	return share.Sum(append(all, gaps(gap, len(lines))...))
}

// spread gives lines that may break their places across in a room.
func spread(lines []*line, room, gap, way int) {
	free := room
	for _, n := range lines {
		free = fix.Sub(free, n.size)
	}
	added, spaces := align.Lines(less(free, gap, len(lines)), len(lines), way)
	at := 0
	for i, n := range lines {
		if i > 0 {
			at = fix.Add(at, gap)
		}
		n.begins = fix.Add(at, spaces[i])
		n.size = fix.Add(n.size, added[i])
		at = fix.Add(n.begins, n.size)
	}
}

// gaps are those between so many.
func gaps(gap, n int) []int {
	return slices.Repeat([]int{gap}, max(0, n-1))
}

// less answers what the gaps between so many leave of a room.
func less(room, gap, n int) int {
	for _, g := range gaps(gap, n) {
		room = fix.Sub(room, g)
	}
	return room
}

// along tells items that follow one another in a room where they begin, by a way of justify-content.
func along(items []*item, room, gap, way int) {
	free := fix.Sub(room, share.Sum(gaps(gap, len(items))))
	var autos []bool
	for _, t := range items {
		free = fix.Sub(fix.Sub(fix.Sub(free, t.length), t.main.ahead), t.main.behind)
		autos = append(autos, t.main.autos[:]...)
	}
	given := align.Autos(free, autos)
	for _, n := range given {
		free = fix.Sub(free, n)
	}
	spaces := align.Spaces(free, len(items), way)
	at := 0
	for i, t := range items {
		if i > 0 {
			at = fix.Add(at, gap)
		}
		t.begins = share.Sum([]int{at, spaces[i], t.main.ahead, given[2*i]})
		at = share.Sum([]int{t.begins, t.length, t.main.behind, given[2*i+1]})
	}
}
