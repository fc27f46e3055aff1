package scan_test

import (
	"strings"
	"testing"

	"wainscot/scan"
	"wainscot/tree"
)

func TestPass(t *testing.T) {
	isA := func(c byte) bool { return c == 'a' }
	for _, c := range []struct {
		s        string
		at, want int
	}{
		{"", 0, 0}, {"a", 0, 1}, {"a", 1, 1}, {"b", 0, 0}, {"aab", 0, 2}, {"aab", 1, 2}, {"aab", 2, 2}, {"abaa", 0, 1}, {"abaa", 2, 4}, {"aaa", 3, 3},
	} {
		if got := scan.Pass(c.s, c.at, isA); got != c.want {
			t.Errorf("%q from %d: %d", c.s, c.at, got)
		}
	}
	// It asks of no byte more than it must.
	asked := 0
	scan.Pass("aaba", 1, func(c byte) bool { asked++; return isA(c) })
	if asked != 2 {
		t.Error(asked)
	}
}

// TestNames: of all bytes, and of all pairs of them.
func TestNames(t *testing.T) {
	const letters = "abcdefghijklmnopqrstuvwxyzABCDEFGHIJKLMNOPQRSTUVWXYZ_"
	for i := range 256 {
		c := byte(i)
		letter := c >= 128 || strings.IndexByte(letters, c) >= 0
		if got := scan.OfName(c); got != (letter || strings.IndexByte("0123456789-", c) >= 0) {
			t.Errorf("%q: %t", c, got)
		}
		if got := scan.Begins(string([]byte{c}), 0); got != letter {
			t.Errorf("%q begins a name: %t", c, got)
		}
		for j := range 256 {
			second := byte(j)
			s := string([]byte{'%', c, second, '%'})
			want := letter || c == '-' && (second == '-' || second >= 128 || strings.IndexByte(letters, second) >= 0)
			if got := scan.Begins(s, 1); got != want {
				t.Errorf("%q: %t", s, got)
			}
		}
	}
	for _, s := range []string{"", "a", "-"} {
		if scan.Begins(s, len(s)) {
			t.Errorf("a name begins at the end of %q", s)
		}
	}
	// However long a name is, it begins, and goes on.
	long := strings.Repeat("n", 1000)
	if !scan.Begins(long, 0) || scan.Pass(long+".", 0, scan.OfName) != 1000 || tree.Name(long) {
		t.Error("a long name")
	}
}
