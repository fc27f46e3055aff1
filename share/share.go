// Package share deals lengths out to the last 64th: layer 2, see shared/doc/02-share.md.
package share

import (
	"cmp"
	"slices"

	"wainscot/api"
	"wainscot/fix"
)

// Deal answers the shares of a total that is dealt to weights, as many as these.
func Deal(total int, weights []int) []int {
	total = fix.Hold(total)
	if total >= 0 {
		return deal(total, weights)
	}
	shares := deal(-total, weights)
	for i, s := range shares {
		shares[i] = -s
	}
	return shares
}

// deal is Deal of a total that is held and not below 0.
func deal(total int, weights []int) []int {
	shares := make([]int, len(weights))
	all := sum(weights)
	if all == 0 {
		return shares
	}
	out := make([]int64, len(weights))
	left := total
	for i, w := range weights {
		product := int64(total) * weight(w)
		shares[i] = int(product / all)
		out[i] = product % all
		left -= shares[i]
	}
	more := func(i, j int) int { return cmp.Compare(out[j], out[i]) }
	for _, i := range pick(left, len(shares), more) {
		shares[i]++
	}
	return shares
}

// weight answers what a number weighs.
func weight(w int) int64 {
	return int64(max(0, fix.Hold(w)))
}

// sum adds weights up without an end: were it held, the shares would be more than the total.
func sum(weights []int) int64 {
	all := int64(0)
	for _, w := range weights {
		all += weight(w)
	}
	return all
}

// pick answers the first few of n places in the order that is told, equal ones as they stand.
func pick(few, n int, order func(i, j int) int) []int {
	places := make([]int, n)
	for i := range places {
		places[i] = i
	}
	slices.SortStableFunc(places, order)
	return places[:few]
}

// Even answers the shares of a total that is dealt to n equal weights.
func Even(total, n int) []int {
	weights := make([]int, max(0, min(n, api.MaxWords)))
	for i := range weights {
		weights[i] = 1
	}
	return Deal(total, weights)
}

// Sum answers the sum of all, added one by one, each sum held.
func Sum(l []int) int {
	all := 0
	for _, n := range l {
		all = fix.Add(all, n)
	}
	return all
}
