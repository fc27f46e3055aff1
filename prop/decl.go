package prop

import (
	"slices"

	"wainscot/api"
	"wainscot/tokens"
	"wainscot/value"
)

// Parse answers what a declaration declares: of a property, or of all that a shorthand stands for.
func Parse(d api.RawDecl) ([]api.Decl, api.Errno) {
	first, count := standsFor(d.Name)
	if count == 0 {
		return nil, api.ErrProp
	}
	told, e := tell(d)
	if e != api.OK || !fit(told, count) {
		return nil, api.ErrValue
	}
	l := declare(first, count, sides(d.Name, told))
	for i := range l {
		if !Takes(l[i].Prop, l[i].Value) {
			return nil, api.ErrValue
		}
		l[i].Important = d.Important
	}
	return l, api.OK
}

// declare answers declarations of properties that follow on one another; what stands on each one's side, it is told.
func declare(first, count int, side func(i int) api.Value) []api.Decl {
	var l []api.Decl
	for i := range count {
		l = append(l, api.Decl{Prop: first + i, Value: side(i)})
	}
	return l
}

// tell answers the values that a declaration tells.
func tell(d api.RawDecl) ([]api.Value, api.Errno) {
	if d.Name == container {
		return tellParted(d.Value)
	}
	return value.Parse(d.Value)
}

// tellParted answers values with a / between each two.
func tellParted(l []api.Token) ([]api.Value, api.Errno) {
	c := tokens.Cursor{Left: l}
	var all []api.Value
	for parted := true; parted; parted = c.Pass(api.Delim, "/") {
		c.Spaces()
		v, n := value.Read(c.Left)
		if n == 0 {
			return nil, api.ErrValue
		}
		all = append(all, v)
		c.Left = c.Left[n:]
		c.Spaces()
	}
	if len(c.Left) > 0 {
		return nil, api.ErrValue
	}
	return all, api.OK
}

// fit tells whether values are not too many for so many properties, and whether those that all properties take stand alone.
func fit(told []api.Value, count int) bool {
	return len(told) == 1 || len(told) <= count && !slices.ContainsFunc(told, general)
}

// Raw answers a declaration as tokens.
func Raw(d api.Decl) (api.RawDecl, api.Errno) {
	if Name(d.Prop) == "" {
		return api.RawDecl{}, api.ErrProp
	}
	if !Takes(d.Prop, d.Value) {
		return api.RawDecl{}, api.ErrValue
	}
	return api.RawDecl{Name: Name(d.Prop), Value: value.Tokens(d.Value), Important: d.Important}, api.OK
}
