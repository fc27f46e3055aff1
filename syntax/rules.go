package syntax

import (
	"wainscot/api"
)

// Rules answers all rules of a list.
func Rules(l []api.Token) []api.Raw {
	var rules []api.Raw
	for l = behindSpaces(l); len(l) > 0; l = behindSpaces(l) {
		at := l[0].Kind == api.At
		var r api.Raw
		if r, l = rule(l); at || r.Block {
			rules = append(rules, r)
		}
	}
	return rules
}

// rule answers the rule that a list begins with, and what stands behind it.
func rule(l []api.Token) (api.Raw, []api.Token) {
	var r api.Raw
	at := l[0].Kind == api.At
	if at {
		r.At = l[0].Text
		l = l[1:]
	}
	end := first(l, func(t api.Token) bool {
		return t.Kind == api.OpenCu || at && t.Kind == api.Semi
	})
	r.Head = clone(trimmed(l[:end]))
	if end < len(l) && l[end].Kind == api.OpenCu {
		from := end + 1
		end = Match(l, end)
		r.Body, r.Block = clone(l[from:end]), true
	}
	return r, l[min(end+1, len(l)):]
}
