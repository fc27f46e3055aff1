package selector

import (
	"slices"

	"wainscot/api"
	"wainscot/tokens"
)

// Print answers a list's tokens.
func Print(l []api.Selector) ([]api.Token, api.Errno) {
	odd := func(s api.Selector) bool { return !Right(s) }
	if len(l) == 0 || slices.ContainsFunc(l, odd) {
		return nil, api.ErrSelector
	}
	var all []api.Token
	for i, s := range l {
		if i > 0 {
			all = append(all, tokens.Sign(api.Comma), tokens.Sign(api.Space))
		}
		for _, p := range s.Parts {
			all = append(all, combTokens(p.Comb)...)
			all = append(all, partTokens(p)...)
		}
	}
	return all, api.OK
}

// combTokens answers what stands ahead of a part of a Comb.
func combTokens(comb int) []api.Token {
	space := tokens.Sign(api.Space)
	switch comb {
	case none:
		return nil
	case api.Beneath:
		return []api.Token{space}
	}
	return []api.Token{space, tokens.Delim(mark(comb)), space}
}

// partTokens answers a part's tokens.
func partTokens(p api.Part) []api.Token {
	var l []api.Token
	if p.Tag != "" {
		l = append(l, tokens.Ident(p.Tag))
	}
	if p.ID != "" {
		l = append(l, api.Token{Kind: api.Hash, Text: p.ID})
	}
	for _, c := range p.Classes {
		l = append(l, tokens.Delim("."), tokens.Ident(c))
	}
	for _, t := range p.Tests {
		l = append(l, testTokens(t)...)
	}
	for state := api.IsRoot; state <= api.IsLast; state *= 2 {
		if p.States&state != 0 {
			l = append(l, tokens.Sign(api.Colon), tokens.Ident(word(state)))
		}
	}
	if len(l) == 0 {
		l = append(l, tokens.Delim("*"))
	}
	return l
}

// testTokens answers a test's tokens.
func testTokens(t api.Test) []api.Token {
	l := []api.Token{tokens.Sign(api.OpenSq), tokens.Ident(t.Name)}
	if t.Equal {
		l = append(l, tokens.Delim("="), api.Token{Kind: api.Str, Text: t.Value})
	}
	return append(l, tokens.Sign(api.CloseSq))
}
