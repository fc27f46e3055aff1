package intrinsic

import (
	"wainscot/api"
	"wainscot/axis"
	"wainscot/fix"
)

// widths are two of something: the least one and the most.
type widths [2]int

const (
	least = iota
	most
)

// each answers both widths, each with something done to it.
func (w widths) each(do func(n int) int) widths {
	return widths{do(w[least]), do(w[most])}
}

// gather answers the widths of kids together: those of the first one, joined with those of each next one.
func gather(kids []int, outer func(k int) widths, join func(all, next widths) widths) widths {
	var all widths
	for i, k := range kids {
		if i == 0 {
			all = outer(k)
			continue
		}
		all = join(all, outer(k))
	}
	return all
}

// joining answers how the widths of an element's next kid are joined with those of the kids ahead.
func joining(s api.Style) func(all, next widths) widths {
	if s.Display != api.Flex || s.Dir != axis.Row && s.Dir != axis.RowBack {
		return pair(greater, greater)
	}
	beside := behind(gap(s.ColGap))
	if s.Wrap != 0 {
		return pair(greater, beside)
	}
	return pair(beside, beside)
}

// pair answers how widths are joined whose least and most ones are joined as told.
func pair(low, high func(a, b int) int) func(all, next widths) widths {
	return func(all, next widths) widths {
		return widths{low(all[least], next[least]), high(all[most], next[most])}
	}
}

// greater joins what stands one above the other.
func greater(a, b int) int {
	return max(a, b)
}

// behind answers how lengths are joined that stand in a row with a gap between.
func behind(gap int) func(a, b int) int {
	return func(a, b int) int { return fix.Add(fix.Add(a, gap), b) }
}

// gap answers how wide a gap is by itself.
func gap(z api.Size) int {
	if z.Kind != api.Fixed {
		return 0
	}
	return max(0, z.N)
}
