package match

import (
	"iter"

	"wainscot/api"
	"wainscot/kin"
)

// Ways to go from a node to its siblings.
const (
	ahead  = -1
	behind = 1
)

// around yields what stands around a node as a Comb says, the nearest first.
func around(l []api.Node, i, comb int) iter.Seq[int] {
	switch comb {
	case api.Beneath:
		return kin.Ups(l, i)
	case api.Child:
		return nearest(kin.Ups(l, i))
	case api.Next:
		return nearest(siblings(l, i, ahead))
	case api.Later:
		return siblings(l, i, ahead)
	}
	return func(func(int) bool) {}
}

// siblings yields the elements with the same parent as a node that stand ahead of it, or behind, the nearest first.
func siblings(l []api.Node, i, way int) iter.Seq[int] {
	return func(yield func(int) bool) {
		parent := kin.Parent(l, i)
		if parent == kin.None {
			return
		}
		for k := i + way; k > parent && k < len(l); k += way {
			if kin.Element(l[k]) && kin.Parent(l, k) == parent && !yield(k) {
				return
			}
		}
	}
}

// nearest yields the first one alone of those that are yielded.
func nearest(all iter.Seq[int]) iter.Seq[int] {
	return func(yield func(int) bool) {
		for k := range all {
			yield(k)
			return
		}
	}
}

// empty tells whether nothing is yielded.
func empty(all iter.Seq[int]) bool {
	for range all {
		return false
	}
	return true
}
