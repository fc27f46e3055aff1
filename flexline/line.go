package flexline

import (
	"wainscot/api"
	"wainscot/fix"
	"wainscot/share"
)

// line is a line that is being resolved.
type line struct {
	items []Item
	// lengths are those of frozen items, loose are the places of the others.
	lengths []int
	loose   []int
	// free is what is free now, first what was free ahead of all rounds. Sums take 64 bits, since they are not held.
	free, first int64
	// factor and weight tell those of an item, as the line grows or shrinks.
	factor, weight func(t Item) int
}

// lineOf answers the line of some items in a room, ahead of all rounds.
func lineOf(l []Item, room int) *line {
	k := &line{lengths: make([]int, len(l)), free: int64(fix.Hold(room))}
	beside := k.free
	for _, t := range l {
		t = t.hold()
		k.items = append(k.items, t)
		k.free -= int64(t.Margin) + int64(t.Base)
		beside -= int64(t.Margin) + int64(t.wish())
	}
	// Dealing would only take an item that is past its wish already farther from it.
	past := Item.short
	k.factor, k.weight = Item.shrinks, Item.yields
	if beside > 0 {
		past, k.factor, k.weight = Item.long, Item.grows, Item.grows
	}
	for i, t := range k.items {
		if k.factor(t) == 0 || past(t) {
			k.freeze(i, t.wish())
		} else {
			k.loose = append(k.loose, i)
		}
	}
	k.first = k.free
	return k
}

// freeze gives item i its last length.
func (k *line) freeze(i, length int) {
	k.lengths[i] = length
	k.free += int64(k.items[i].Base) - int64(length)
}

// round deals what is free to the loose items, and freezes those that it takes too far.
func (k *line) round() {
	trials := make([]trial, len(k.loose))
	all := int64(0)
	for i, part := range share.Deal(k.dealt(), k.weights()) {
		trials[i] = k.try(k.loose[i], part)
		all += trials[i].breach
	}
	k.loose = nil
	for _, x := range trials {
		if x.ends(all) {
			k.freeze(x.at, x.length)
		} else {
			k.loose = append(k.loose, x.at)
		}
	}
}

// dealt answers what a round deals.
func (k *line) dealt() int {
	n := k.free
	if all := k.factors(); all < thousand {
		part := int64(fix.Part(held(k.first), int(all), thousand))
		if unsigned(part) < unsigned(n) {
			n = part
		}
	}
	return held(n)
}

// factors answers the sum of the loose items' factors.
func (k *line) factors() int64 {
	all := int64(0)
	for _, i := range k.loose {
		all += int64(k.factor(k.items[i]))
	}
	return all
}

// weights answers what the loose items weigh.
func (k *line) weights() []int {
	l := make([]int, len(k.loose))
	for i, at := range k.loose {
		l[i] = k.weight(k.items[at])
	}
	return l
}

// held answers the nearest length to a sum.
func held(n int64) int {
	return int(max(-api.MaxLen, min(n, api.MaxLen)))
}

// unsigned answers a sum without its sign.
func unsigned(n int64) int64 {
	return max(n, -n)
}

// trial is what a round would make of the item at a place.
type trial struct {
	at     int
	length int
	// breach is what clamping adds.
	breach int64
}

// try answers what is made of item i by its share.
func (k *line) try(i, part int) trial {
	would := fix.Add(k.items[i].Base, part)
	length := k.items[i].clamp(would)
	return trial{at: i, length: length, breach: int64(length) - int64(would)}
}

// ends tells whether an item is frozen in a round in which all breaches together are so many: the others may still give way the other way.
func (x trial) ends(all int64) bool {
	return all == 0 || all > 0 && x.breach > 0 || all < 0 && x.breach < 0
}
