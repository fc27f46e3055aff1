package tree_test

import (
	"slices"
	"strings"
	"testing"

	"wainscot/api"
	"wainscot/tree"
)

// ok fails if a call on a builder does.
func ok(t *testing.T, e api.Errno) {
	t.Helper()
	if e != api.OK {
		t.Fatal(e)
	}
}

// wrong fails if a call is not answered that error.
func wrong(t *testing.T, e, want api.Errno) {
	t.Helper()
	if e != want {
		t.Errorf("%d, not %d", e, want)
	}
}

func TestBuilder(t *testing.T) {
	b := tree.New()
	// Parent does not count: it is as it stands.
	ok(t, b.Open(api.Node{Parent: 55, Tag: "a", ID: "i", Classes: []string{"c", "d"}, Attrs: []api.Attr{{Name: "n", Value: "two words"}}}))
	ok(t, b.Words("one"))
	ok(t, b.Open(api.Node{Parent: -9, Tag: "b"}))
	ok(t, b.Words(""))
	ok(t, b.Open(element(least, "c")))
	ok(t, b.Close())
	ok(t, b.Words("two"))
	ok(t, b.Close())
	ok(t, b.Open(element(most, "d")))
	ok(t, b.Close())
	ok(t, b.Close())
	got, e := b.Done()
	ok(t, e)
	want := []api.Node{
		{Parent: -1, Tag: "a", ID: "i", Classes: []string{"c", "d"}, Attrs: []api.Attr{{Name: "n", Value: "two words"}}},
		words(0, "one"), element(0, "b"), words(2, ""), element(2, "c"), words(2, "two"), element(0, "d"),
	}
	if !slices.EqualFunc(got, want, same) {
		t.Error(got)
	}
}

func TestBuilderNil(t *testing.T) {
	var b *tree.Builder
	wrong(t, b.Open(element(-1, "a")), api.ErrNil)
	wrong(t, b.Open(element(-1, "1")), api.ErrNil)
	wrong(t, b.Words("w"), api.ErrNil)
	wrong(t, b.Words("\""), api.ErrNil)
	wrong(t, b.Close(), api.ErrNil)
	l, e := b.Done()
	wrong(t, e, api.ErrNil)
	if l != nil {
		t.Error(l)
	}
}

// empty fails if a builder has a tree, or anything open.
func empty(t *testing.T, b *tree.Builder) {
	t.Helper()
	wrong(t, b.Close(), api.ErrTree)
	wrong(t, b.Words("w"), api.ErrTree)
	l, e := b.Done()
	wrong(t, e, api.ErrTree)
	if l != nil {
		t.Error(l)
	}
}

// TestBuilderNothing: a builder begins with nothing, and what fails puts nothing.
func TestBuilderNothing(t *testing.T) {
	if tree.New() == nil || tree.New() == tree.New() {
		t.Error("no builder of its own")
	}
	for _, b := range []*tree.Builder{tree.New(), new(tree.Builder)} {
		empty(t, b)
		for _, n := range wrongNodes() {
			wrong(t, b.Open(n), api.ErrTree)
			empty(t, b)
		}
		for _, n := range rightNodes() {
			if n.Tag == "" {
				wrong(t, b.Open(n), api.ErrTree)
				empty(t, b)
			}
		}
		ok(t, b.Open(element(-1, "a")))
		ok(t, b.Close())
		// One element that is closed is a tree, and nothing stands beside it.
		wrong(t, b.Open(element(-1, "b")), api.ErrTree)
		l, e := b.Done()
		ok(t, e)
		if len(l) != 1 {
			t.Error(l)
		}
	}
}

// TestBuilderRight: what is right is put as it is, whatever it has.
func TestBuilderRight(t *testing.T) {
	b := tree.New()
	want := elements(-1)
	ok(t, b.Open(want[0]))
	for _, n := range rightNodes() {
		if n.Tag == "" {
			ok(t, b.Words(n.Text))
		} else {
			ok(t, b.Open(n))
			ok(t, b.Close())
		}
		want = append(want, n)
	}
	for _, n := range wrongNodes() {
		wrong(t, b.Open(n), api.ErrTree)
	}
	for _, s := range []string{"\"", "a\nb", "\x00", strings.Repeat("w", 257)} {
		wrong(t, b.Words(s), api.ErrTree)
	}
	ok(t, b.Close())
	got, e := b.Done()
	ok(t, e)
	if !slices.EqualFunc(got, want, same) {
		t.Error(got)
	}
}

// TestBuilderOpen: while one is open there is no tree yet, and once all are closed it stays as it is.
func TestBuilderOpen(t *testing.T) {
	b := tree.New()
	ok(t, b.Open(element(-1, "a")))
	ok(t, b.Open(element(-1, "b")))
	for range 2 {
		l, e := b.Done()
		wrong(t, e, api.ErrTree)
		if l != nil {
			t.Error(l)
		}
		ok(t, b.Close())
	}
	for range 2 {
		wrong(t, b.Close(), api.ErrTree)
		wrong(t, b.Open(element(-1, "c")), api.ErrTree)
		wrong(t, b.Words("w"), api.ErrTree)
		l, e := b.Done()
		ok(t, e)
		if !slices.EqualFunc(l, []api.Node{element(-1, "a"), element(0, "b")}, same) {
			t.Error(l)
		}
	}
}

func TestBuilderMany(t *testing.T) {
	b := tree.New()
	ok(t, b.Open(element(-1, "a")))
	for i := 1; i < 1024; i++ {
		if i%2 == 0 {
			ok(t, b.Words("w"))
			continue
		}
		ok(t, b.Open(element(-1, "b")))
		ok(t, b.Close())
	}
	for range 2 {
		wrong(t, b.Open(element(-1, "b")), api.ErrNodes)
		wrong(t, b.Words("w"), api.ErrNodes)
		// What is not right is told ahead of too many.
		wrong(t, b.Open(element(-1, "1")), api.ErrTree)
		wrong(t, b.Words("\""), api.ErrTree)
	}
	ok(t, b.Close())
	wrong(t, b.Open(element(-1, "b")), api.ErrTree)
	wrong(t, b.Words("w"), api.ErrTree)
	l, e := b.Done()
	ok(t, e)
	if len(l) != 1024 || tree.Check(l) != api.OK {
		t.Error(len(l))
	}
}

func TestBuilderDeep(t *testing.T) {
	b := tree.New()
	for range 64 {
		ok(t, b.Open(element(-1, "a")))
	}
	for range 2 {
		wrong(t, b.Open(element(-1, "b")), api.ErrDepth)
		wrong(t, b.Words("w"), api.ErrDepth)
		// What is not right is told ahead of too deep.
		wrong(t, b.Open(element(-1, "1")), api.ErrTree)
		wrong(t, b.Words("\""), api.ErrTree)
	}
	ok(t, b.Close())
	ok(t, b.Words("w"))
	ok(t, b.Open(element(-1, "c")))
	wrong(t, b.Words("w"), api.ErrDepth)
	// Too many are told ahead of too deep.
	ok(t, b.Close())
	for range 1024 - 66 {
		ok(t, b.Words("w"))
	}
	wrong(t, b.Open(element(-1, "b")), api.ErrNodes)
	for range 63 {
		ok(t, b.Close())
	}
	l, e := b.Done()
	ok(t, e)
	if len(l) != 1024 || tree.Depth(l, 65) != 64 || tree.Check(l) != api.OK {
		t.Error(len(l), tree.Depth(l, 65))
	}

	full := tree.New()
	ok(t, full.Open(element(-1, "a")))
	for range 1024 - 64 {
		ok(t, full.Words("w"))
	}
	for range 63 {
		ok(t, full.Open(element(-1, "a")))
	}
	wrong(t, full.Open(element(-1, "b")), api.ErrNodes)
	wrong(t, full.Words("w"), api.ErrNodes)
}

// TestBuilderKeepsNothing: what is handed in is not kept, and what is answered is not the builder's.
func TestBuilderKeepsNothing(t *testing.T) {
	n := api.Node{Parent: 3, Tag: "a", Classes: []string{"c", "d"}, Attrs: []api.Attr{{Name: "n", Value: "v"}}}
	old := deep([]api.Node{n})[0]
	b := tree.New()
	ok(t, b.Open(n))
	ok(t, b.Open(n))
	ok(t, b.Close())
	if !same(n, old) {
		t.Error(n)
	}
	n.Classes[0], n.Attrs[0].Value = "spoilt", "spoilt"
	ok(t, b.Close())
	want := []api.Node{old, old}
	want[0].Parent, want[1].Parent = -1, 0
	first, e := b.Done()
	ok(t, e)
	if !slices.EqualFunc(first, want, same) {
		t.Error(first)
	}
	spoil(first)
	if second, _ := b.Done(); !slices.EqualFunc(second, want, same) {
		t.Error(second)
	}
	// One builder knows nothing of another one.
	empty(t, tree.New())
}

// TestDoneIsTree: P4.5, P1: whatever is called, in any order, Done answers a tree.
func TestDoneIsTree(t *testing.T) {
	c := chance(7)
	right, bad := rightNodes(), wrongNodes()
	trees := 0
	for range 600 {
		b := tree.New()
		opened, put := 0, 0
		closes := 2 + c.below(9)
		for range c.below(3000) {
			var e api.Errno
			switch k := c.below(closes); k {
			case 0:
				if e = b.Close(); e == api.OK {
					opened--
				}
			case 1:
				if e = b.Words([]string{"w", "", "\"", "\n"}[c.below(4)]); e == api.OK {
					put++
				}
			default:
				n := right[c.below(len(right))]
				if c.below(4) == 0 {
					n = bad[c.below(len(bad))]
				}
				if e = b.Open(n); e == api.OK {
					opened, put = opened+1, put+1
				}
			}
			l, e := b.Done()
			if done := put > 0 && opened == 0; done != (e == api.OK) || !done && (l != nil || e != api.ErrTree) {
				t.Fatalf("%d put, %d open: %d, %d", put, opened, len(l), e)
			}
			if e == api.OK {
				trees++
				if len(l) != put || checked(l) != api.OK || tree.Check(l) != api.OK {
					t.Fatalf("%d of %d: %v", len(l), put, l)
				}
				break
			}
		}
		for b.Close() == api.OK {
		}
		if l, e := b.Done(); e == api.OK && tree.Check(l) != api.OK {
			t.Fatal(l)
		}
	}
	if trees < 50 {
		t.Errorf("only %d trees", trees)
	}
}
