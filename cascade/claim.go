package cascade

import (
	"wainscot/api"
	"wainscot/match"
	"wainscot/selector"
)

// own is the Origin of the window's own rules.
const own = 0

// The levels, the weakest first: what is important turns the origins around.
const (
	ownLevel = iota
	authorLevel
	authorImportant
	ownImportant
)

// Level answers a declaration's, by its rule's Origin and its importance.
func Level(origin int, important bool) int {
	switch {
	case origin == own && important:
		return ownImportant
	case important:
		return authorImportant
	case origin == own:
		return ownLevel
	}
	return authorLevel
}

// claim is where a declaration stands that may win, and what it wins by.
type claim struct {
	rule, decl int
	level      int
	weight     [3]int
}

// nobody is what every claim beats.
func nobody() claim {
	return claim{rule: -1, decl: -1, level: ownLevel - 1}
}

// beats tells whether a claim wins over one that stands ahead of it.
func (c claim) beats(ahead claim) bool {
	if c.level != ahead.level {
		return c.level > ahead.level
	}
	// Of equal ones that wins which stands behind.
	return c.weight == ahead.weight || selector.Compare(c.weight, ahead.weight) > 0
}

// claims hands out the declarations of the rules that count for an element, in order.
func claims(l []api.Node, i int, rules []api.Rule, on []bool, take func(c claim, d api.Decl)) {
	for r := range min(len(rules), len(on)) {
		if !on[r] {
			continue
		}
		weight, counts := match.Best(l, i, rules[r].Sels)
		if !counts {
			continue
		}
		for k, d := range rules[r].Decls {
			take(claim{rule: r, decl: k, level: Level(rules[r].Origin, d.Important), weight: weight}, d)
		}
	}
}
