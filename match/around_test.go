package match_test

import (
	"slices"
	"testing"

	"wainscot/api"
	"wainscot/match"
)

// The chapter's words, one by one, of small lists.

// parentOf is the number of a node's parent, -1, if it has none.
func parentOf(l []api.Node, i int) int {
	p := l[i].Parent
	if p < 0 || p >= i {
		return -1
	}
	return p
}

// isBeneath tells whether node i stands beneath node k.
func isBeneath(l []api.Node, i, k int) bool {
	p := parentOf(l, i)
	return p >= 0 && (p == k || isBeneath(l, p, k))
}

// isAhead tells whether node k is a sibling ahead of node i.
func isAhead(l []api.Node, i, k int) bool {
	return l[k].Tag != "" && k < i && parentOf(l, k) >= 0 && parentOf(l, k) == parentOf(l, i)
}

// statesOf are the states that an element has.
func statesOf(l []api.Node, i int) []int {
	first, last := true, true
	for k := range l {
		if isAhead(l, i, k) {
			first = false
		}
		if l[k].Tag != "" && isAhead(l, k, i) {
			last = false
		}
	}
	var all []int
	if i == 0 {
		all = append(all, api.IsRoot)
	}
	if first {
		all = append(all, api.IsFirst)
	}
	if last {
		all = append(all, api.IsLast)
	}
	return all
}

// partOf is Part by the chapter's words.
func partOf(l []api.Node, i int, p api.Part) bool {
	if i < 0 || i >= len(l) || l[i].Tag == "" {
		return false
	}
	n := l[i]
	ok := (p.Tag == "" || p.Tag == n.Tag) && (p.ID == "" || p.ID == n.ID)
	for _, c := range p.Classes {
		ok = ok && slices.Contains(n.Classes, c)
	}
	for _, test := range p.Tests {
		passed := false
		for k := len(n.Attrs) - 1; k >= 0; k-- {
			if a := n.Attrs[k]; a.Name == test.Name {
				passed = !test.Equal || a.Value == test.Value
			}
		}
		ok = ok && passed
	}
	for _, state := range []int{api.IsRoot, api.IsFirst, api.IsLast} {
		if p.States > 0 && p.States/state%2 == 1 {
			ok = ok && slices.Contains(statesOf(l, i), state)
		}
	}
	return ok
}

// picksOf is Picks by the chapter's words.
func picksOf(l []api.Node, i int, parts []api.Part) bool {
	if len(parts) == 0 {
		return false
	}
	last, others := parts[len(parts)-1], parts[:len(parts)-1]
	if !partOf(l, i, last) {
		return false
	}
	if len(others) == 0 {
		return true
	}
	nearest := -1
	for k := range l {
		if isAhead(l, i, k) {
			nearest = k
		}
	}
	for k := range l {
		around := false
		switch last.Comb {
		case api.Beneath:
			around = isBeneath(l, i, k)
		case api.Child:
			around = parentOf(l, i) == k
		case api.Next:
			around = nearest == k
		case api.Later:
			around = isAhead(l, i, k)
		}
		if around && picksOf(l, k, others) {
			return true
		}
	}
	return false
}

// reckoned fails if a list's answers are not as the chapter's words say; it tells how many elements are picked.
func reckoned(t *testing.T, l []api.Node, s api.Selector) int {
	t.Helper()
	var want []int
	for i := -1; i <= len(l); i++ {
		picked := i >= 0 && i < len(l) && picksOf(l, i, s.Parts)
		if picked {
			want = append(want, i)
		}
		if got := match.Picks(l, i, s); got != picked {
			t.Fatalf("%v picks %d of %v: %t", s, i, l, got)
		}
		for _, p := range s.Parts {
			if got, want := match.Part(l, i, p), partOf(l, i, p); got != want {
				t.Fatalf("%v picks %d of %v: %t", p, i, l, got)
			}
		}
	}
	if got := match.All(l, []api.Selector{s}); !slices.Equal(got, want) {
		t.Fatalf("%v picks %v of %v, not %v", s, got, l, want)
	}
	return len(want)
}

// trees hands over all trees of n nodes, each node one of some.
func trees(n int, some []api.Node, take func(l []api.Node)) {
	var more func(l []api.Node)
	more = func(l []api.Node) {
		if len(l) == n {
			take(l)
			return
		}
		for up := len(l) - 1; up >= 0; up = parentOf(l, up) {
			for _, one := range some {
				if l[up].Tag != "" {
					one.Parent = up
					more(append(l[:len(l):len(l)], one))
				}
			}
		}
	}
	for _, one := range some {
		if one.Tag != "" {
			one.Parent = -1
			more([]api.Node{one})
		}
	}
}

// TestReckonedTrees: P13.1, P13.2 of all small trees, and all selectors of up to three parts that ask for little.
func TestReckonedTrees(t *testing.T) {
	parts := []api.Part{{}, {Tag: "a"}, {States: api.IsFirst}, {States: api.IsLast}}
	var sels []api.Selector
	for _, p := range parts {
		sels = append(sels, of(p))
		for comb := api.Beneath; comb <= api.Later; comb++ {
			for _, q := range parts {
				q.Comb = comb
				sels = append(sels, of(p, q))
				for last := api.Beneath; last <= api.Later; last++ {
					sels = append(sels, of(p, q, api.Part{Comb: last, Tag: "b"}))
				}
			}
		}
	}
	some := []api.Node{{Tag: "a"}, {Tag: "b"}, {Text: "x"}}
	picked := 0
	for n := 1; n <= 4; n++ {
		trees(n, some, func(l []api.Node) {
			for _, s := range sels {
				picked += reckoned(t, l, s)
			}
		})
	}
	if picked == 0 {
		t.Error("none is picked")
	}
}

// TestReckonedLists: P13.1, P13.2 of many lists, most of them no trees, and many selectors, not all of them right.
func TestReckonedLists(t *testing.T) {
	c := chance(3)
	picked := 0
	for range 20000 {
		l := someList(&c, 1+c.below(9))
		s := someSelector(&c, 1+c.below(4))
		if c.below(6) == 0 {
			s.Parts[c.below(len(s.Parts))].Comb = oneOf(&c, least, -1, 0, 5, 1<<32+1, most)
		}
		if reckoned(t, l, s) > 0 {
			picked++
		}
	}
	if picked < 3000 || picked > 17000 {
		t.Errorf("%d pick one", picked)
	}
}
