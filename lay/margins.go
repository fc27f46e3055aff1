package lay

import (
	"wainscot/align"
	"wainscot/fix"
	"wainscot/sizing"
)

// margins are those of an item on two sides, the one ahead and the one behind.
type margins struct {
	ahead, behind int
	autos         [2]bool
}

// marginsOf answers those of a frame on two sides.
func marginsOf(f sizing.Frame, ahead, behind int) margins {
	return margins{f.Margin[ahead], f.Margin[behind], [2]bool{f.Auto[ahead], f.Auto[behind]}}
}

// both answers what both take.
func (m margins) both() int {
	return fix.Add(m.ahead, m.behind)
}

// any tells whether one takes what is free.
func (m margins) any() bool {
	return m.autos[0] || m.autos[1]
}

// place answers where something of a size has its place in a room.
func (m margins) place(way, room, size int) int {
	room = fix.Sub(fix.Sub(room, m.ahead), m.behind)
	if m.any() {
		return fix.Add(m.ahead, align.Autos(fix.Sub(room, size), m.autos[:])[0])
	}
	return fix.Add(m.ahead, align.Offset(way, room, size))
}
