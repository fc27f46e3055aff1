package kin_test

import (
	"math"
	"slices"
	"testing"

	"wainscot/api"
	"wainscot/kin"
)

const (
	least = math.MinInt
	most  = math.MaxInt
)

func TestHas(t *testing.T) {
	for n := range 4 {
		l := make([]api.Node, n)
		for _, i := range []int{least, -1, 0, 1, 2, 3, 4, 1 << 32, most} {
			if got := kin.Has(l, i); got != (i >= 0 && i < n) {
				t.Errorf("of %d nodes %d: %t", n, i, got)
			}
		}
	}
}

func TestElement(t *testing.T) {
	for _, n := range []api.Node{{Tag: "a"}, {Tag: "1"}, {Tag: "a", Text: "x"}} {
		if !kin.Element(n) {
			t.Errorf("%v is none", n)
		}
	}
	for _, n := range []api.Node{{}, {Text: "x"}, {ID: "a"}, {Classes: []string{"a"}}, {Attrs: []api.Attr{{Name: "a"}}}} {
		if kin.Element(n) {
			t.Errorf("%v is one", n)
		}
	}
}

func TestParent(t *testing.T) {
	for _, p := range []int{least, -2, -1, 0, 1, 2, 3, 4, 1 << 32, most} {
		for i := range 4 {
			l := make([]api.Node, 4)
			l[i].Parent = p
			want := kin.None
			if p >= 0 && p < i {
				want = p
			}
			if got := kin.Parent(l, i); got != want {
				t.Errorf("node %d with Parent %d: %d", i, p, got)
			}
		}
	}
}

func TestUps(t *testing.T) {
	l := []api.Node{{Parent: 0}, {Parent: 0}, {Parent: 1}, {Parent: 0}, {Parent: 2}, {Parent: 9}, {Parent: -1}, {Parent: 5}}
	for i, want := range [][]int{nil, {0}, {1, 0}, {0}, {2, 1, 0}, nil, nil, {5}} {
		if got := slices.Collect(kin.Ups(l, i)); !slices.Equal(got, want) {
			t.Errorf("node %d: %v, not %v", i, got, want)
		}
	}
	for _, i := range []int{least, -1, 8, 1 << 32, most} {
		if got := slices.Collect(kin.Ups(l, i)); got != nil {
			t.Errorf("node %d: %v", i, got)
		}
	}
	// Who has enough gets no more.
	for up := range kin.Ups(l, 4) {
		if up != 2 {
			t.Errorf("%d is the nearest", up)
		}
		break
	}
}
