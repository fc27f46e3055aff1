package share_test

import (
	"math"
	"math/big"
	"slices"
	"testing"

	"wainscot/api"
	"wainscot/fix"
	"wainscot/share"
)

const (
	end   = api.MaxLen
	least = math.MinInt
	most  = math.MaxInt
)

// chance hands out numbers that look like chance, the same ones in every run.
type chance uint64

func (c *chance) below(n int) int {
	*c = *c*6364136223846793005 + 1442695040888963407
	return int(uint64(*c)>>33) % n
}

// totals and lists of weights at which something may change.
func totals() []int {
	return []int{0, 1, 2, 3, 7, 10, 64, 100, 999, 1 << 20, end - 1, end, -1, -2, -3, -7, -10, -64, -1 << 20, 1 - end, -end, most, least, most - 1, least + 1}
}

func lists() [][]int {
	l := [][]int{
		nil, {}, {0}, {1}, {-1}, {0, 0, 0}, {-5, -1}, {least}, {most}, {1, 1}, {1, 1, 1}, {0, 1}, {1, 0}, {-1, 1, -1, 1},
		{0, 2, 5, -1}, {1, 2, 3}, {3, 2, 1}, {5, 3, 5, 3}, {1, end}, {end, 1}, {end, end, end}, {most, most, 1}, {most, least, end}, {2, 4, 4, 2, 8, 1},
		slices.Repeat([]int{1}, 300), slices.Repeat([]int{end}, 1000), slices.Repeat([]int{most, 0, 1}, 100),
	}
	c := chance(2)
	for range 300 {
		w := make([]int, 1+c.below(12))
		top := []int{3, 10, 1000, 1 << 20, end}[c.below(5)]
		for i := range w {
			w[i] = c.below(top) - top/8
		}
		l = append(l, w)
	}
	return l
}

// dealt is Deal, reckoned with numbers of any size, and what is left given one by one.
func dealt(total int, weights []int) []int {
	shares := make([]int, len(weights))
	sign := 1
	total = fix.Hold(total)
	if total < 0 {
		sign, total = -1, -total
	}
	all := new(big.Int)
	for _, w := range weights {
		all.Add(all, big.NewInt(int64(max(0, fix.Hold(w)))))
	}
	if all.Sign() == 0 {
		return shares
	}
	out := make([]*big.Int, len(weights))
	left := total
	for i, w := range weights {
		p := new(big.Int).Mul(big.NewInt(int64(total)), big.NewInt(int64(max(0, fix.Hold(w)))))
		q := new(big.Int)
		q.QuoRem(p, all, p)
		shares[i], out[i] = int(q.Int64()), p
		left -= shares[i]
	}
	for range left {
		first := 0
		for i := range out {
			if out[i].Cmp(out[first]) > 0 {
				first = i
			}
		}
		shares[first]++
		out[first] = big.NewInt(-1)
	}
	for i := range shares {
		shares[i] *= sign
	}
	return shares
}

func TestDeal(t *testing.T) {
	for _, c := range []struct {
		total         int
		weights, want []int
	}{
		{10, []int{1, 1, 1}, []int{4, 3, 3}},
		{-10, []int{1, 1, 1}, []int{-4, -3, -3}},
		{7, []int{0, 2, 5, -1}, []int{0, 2, 5, 0}},
		{11, []int{1, 1, 1}, []int{4, 4, 3}},
		{9, []int{1, 1, 1}, []int{3, 3, 3}},
		{0, []int{1, 2}, []int{0, 0}},
		{1, []int{1, 1, 1}, []int{1, 0, 0}},
		{5, nil, nil},
		{5, []int{}, nil},
		// Without a weight above 0 nobody has anything.
		{5, []int{0}, []int{0}},
		{5, []int{0, -3, least}, []int{0, 0, 0}},
		{-5, []int{-3, 0}, []int{0, 0}},
		// Most was left out of the last one, then of the one in the middle.
		{10, []int{1, 2, 4}, []int{1, 3, 6}},
		{1, []int{1, 2, 4}, []int{0, 0, 1}},
		{2, []int{1, 2, 4}, []int{0, 1, 1}},
		{-10, []int{1, 2, 4}, []int{-1, -3, -6}},
		// Of equal ones the first.
		{1, []int{1, 3, 3, 1}, []int{0, 1, 0, 0}},
		{2, []int{1, 3, 3, 1}, []int{0, 1, 1, 0}},
		{3, []int{2, 2, 0, 2, 2}, []int{1, 1, 0, 1, 0}},
		{-3, []int{2, 2, 0, 2, 2}, []int{-1, -1, 0, -1, 0}},
		// Totals and weights are held; the sum of the weights is not.
		{most, []int{1}, []int{end}},
		{least, []int{1}, []int{-end}},
		{most, []int{1, 1}, []int{end / 2, end / 2}},
		{8, []int{most, most, end, end}, []int{2, 2, 2, 2}},
		{9, []int{most, end, end}, []int{3, 3, 3}},
		{6, []int{least, 1, 2}, []int{0, 2, 4}},
		{end, []int{end, 1}, []int{end - 1, 1}},
	} {
		if got := share.Deal(c.total, c.weights); !slices.Equal(got, c.want) {
			t.Errorf("%d to %v is %v, not %v", c.total, c.weights, got, c.want)
		}
	}
}

func TestDealReckoned(t *testing.T) {
	for _, weights := range lists() {
		for _, total := range totals() {
			if got, want := share.Deal(total, weights), dealt(total, weights); !slices.Equal(got, want) {
				t.Fatalf("%d to %v is %v, not %v", total, weights, got, want)
			}
		}
	}
}

// TestDealKeepsNothing: what is handed in stays, what is answered is new.
func TestDealKeepsNothing(t *testing.T) {
	weights := []int{5, -1, most, 3}
	first := share.Deal(100, weights)
	want := slices.Clone(first)
	if !slices.Equal(weights, []int{5, -1, most, 3}) {
		t.Error(weights)
	}
	second := share.Deal(100, weights)
	clear(weights)
	clear(first)
	if !slices.Equal(second, want) {
		t.Error(second, want)
	}
	third, fourth := share.Even(10, 3), share.Even(10, 3)
	clear(third)
	if !slices.Equal(fourth, []int{4, 3, 3}) {
		t.Error(fourth)
	}
}

func TestEven(t *testing.T) {
	for _, c := range []struct {
		total, n int
		want     []int
	}{
		{10, 3, []int{4, 3, 3}}, {-10, 3, []int{-4, -3, -3}}, {10, 1, []int{10}}, {2, 4, []int{1, 1, 0, 0}}, {0, 2, []int{0, 0}},
		{10, 0, nil}, {10, -1, nil}, {10, least, nil},
		{most, 2, []int{end / 2, end / 2}}, {least, 2, []int{-end / 2, -end / 2}},
		{256, 256, slices.Repeat([]int{1}, 256)}, {256, 257, slices.Repeat([]int{1}, 256)}, {512, most, slices.Repeat([]int{2}, 256)},
		{255, 255, slices.Repeat([]int{1}, 255)}, {-512, 1 << 20, slices.Repeat([]int{-2}, 256)},
	} {
		if got := share.Even(c.total, c.n); !slices.Equal(got, c.want) {
			t.Errorf("%d to %d is %v, not %v", c.total, c.n, got, c.want)
		}
	}
	for _, total := range totals() {
		for n := range 300 {
			want := dealt(total, slices.Repeat([]int{1}, min(n, 256)))
			if got := share.Even(total, n); !slices.Equal(got, want) {
				t.Fatalf("%d to %d is %v, not %v", total, n, got, want)
			}
		}
	}
}

func TestSum(t *testing.T) {
	for _, c := range []struct {
		l    []int
		want int
	}{
		{nil, 0}, {[]int{}, 0}, {[]int{5}, 5}, {[]int{1, 2, 3}, 6}, {[]int{-1, 2, -3}, -2},
		{[]int{end, 1}, end}, {[]int{-end, -1}, -end},
		// Each sum is held, so the order counts.
		{[]int{end, 1, -1}, end - 1}, {[]int{end, -1, 1}, end}, {[]int{-end, -5, 7}, 7 - end}, {[]int{1, -1, end}, end},
		// What is given is held first.
		{[]int{most}, end}, {[]int{least}, -end}, {[]int{most, -1}, end - 1}, {[]int{-1, most}, end - 1}, {[]int{most, least}, 0}, {[]int{least, most, 3}, 3},
		{slices.Repeat([]int{most}, 100), end}, {slices.Repeat([]int{least}, 100), -end},
	} {
		in := slices.Clone(c.l)
		if got := share.Sum(in); got != c.want || !slices.Equal(in, c.l) {
			t.Errorf("the sum of %v is %d, not %d", c.l, got, c.want)
		}
	}
}

// TestWhole: P2.3: the shares are the whole total, each what the division says, or one more.
func TestWhole(t *testing.T) {
	for _, weights := range lists() {
		all := int64(0)
		for _, w := range weights {
			all += int64(max(0, fix.Hold(w)))
		}
		for _, total := range totals() {
			got := share.Deal(total, weights)
			if len(got) != len(weights) {
				t.Fatalf("%d to %v is %v", total, weights, got)
			}
			if all == 0 {
				if slices.ContainsFunc(got, func(s int) bool { return s != 0 }) {
					t.Fatalf("%d to %v is %v", total, weights, got)
				}
				continue
			}
			whole := fix.Hold(total)
			if share.Sum(got) != whole {
				t.Fatalf("%d to %v is %v", total, weights, got)
			}
			for i, w := range weights {
				one := int64(max(whole, -whole)) * int64(max(0, fix.Hold(w))) / all
				if s := int64(max(got[i], -got[i])); s != one && s != one+1 {
					t.Fatalf("%d to %v is %v: %d is not %d or one more", total, weights, got, s, one)
				}
			}
		}
	}
}

// TestNoLess: P2.4: who weighs more gets no less, of equal ones the one ahead; below 0 the opposite is dealt.
func TestNoLess(t *testing.T) {
	weigh := func(w int) int { return max(0, fix.Hold(w)) }
	for _, weights := range lists() {
		if len(weights) > 300 {
			continue
		}
		for _, total := range totals() {
			got := share.Deal(total, weights)
			for i := range got {
				for j := range got {
					more := weigh(weights[i]) > weigh(weights[j]) || weigh(weights[i]) == weigh(weights[j]) && i < j
					if more && max(got[i], -got[i]) < max(got[j], -got[j]) {
						t.Fatalf("%d to %v is %v: %d has less than %d", total, weights, got, i, j)
					}
				}
			}
		}
	}
}

// TestNobodyElse: who weighs nothing gets nothing, and a share goes the total's way.
func TestNobodyElse(t *testing.T) {
	for _, weights := range lists() {
		for _, total := range totals() {
			for i, s := range share.Deal(total, weights) {
				if weights[i] <= 0 && s != 0 || s != 0 && (s < 0) != (total < 0) {
					t.Fatalf("%d to %v: %d gets %d", total, weights, i, s)
				}
			}
		}
	}
}

// TestMany: P1: a list far longer than any line of items is dealt to, too.
func TestMany(t *testing.T) {
	weights := slices.Repeat([]int{end, 1, 0, -7, most}, 1<<16)
	got := share.Deal(end, weights)
	if len(got) != len(weights) || share.Sum(got) != end {
		t.Error(len(got), share.Sum(got))
	}
	if len(share.Deal(least, weights)) != len(weights) {
		t.Error("not as many shares as weights")
	}
}
