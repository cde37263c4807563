package factory_test

import (
	"fmt"
	"math"
	"math/rand/v2"
	"slices"
	"testing"

	"bayou/api"
	"bayou/cond"
	"bayou/factory"
	"bayou/tx"
)

// wantShare holds a share against what it must be, and against the plain rule.
func wantShare(t *testing.T, what string, outs []tx.Out, who, wanted int) {
	t.Helper()
	if got, plain := factory.Share(outs, who), plainShare(outs, who); got != wanted || got != plain {
		t.Errorf("%s: Share of %d: %d, want %d, plainly %d", what, who, got, wanted, plain)
	}
}

// branched is an output of 70 with some branches.
func branched(l ...cond.Branch) tx.Out { return tx.Out{Amount: 70, Cond: cond.Cond{Branches: l}} }

// Share: which outputs count: those that have a branch, at any place, whose only key is the party's, and that asks for nothing else.
func TestShareBranches(t *testing.T) {
	mine := cond.Branch{Keys: []int{3}}
	other := cond.Branch{Keys: []int{2}}
	locked := cond.Branch{Keys: []int{3}, Lock: api.Hash{31: 1}}
	for _, x := range []struct {
		what string
		out  tx.Out
		n    int
	}{
		{"no branch", branched(), 0},
		{"one", branched(mine), 70},
		{"another's", branched(other), 0},
		{"no key", branched(cond.Branch{}), 0},
		{"two keys", branched(cond.Branch{Keys: []int{3, 4}}), 0},
		{"two keys, the other one ahead", branched(cond.Branch{Keys: []int{2, 3}}), 0},
		{"all keys", branched(cond.Branch{Keys: upTo(16)}), 0},
		{"a key more than once", branched(cond.Branch{Keys: []int{3, 3}}), 0},
		{"a Lock", branched(locked), 0},
		{"a Lock that begins otherwise", branched(cond.Branch{Keys: []int{3}, Lock: api.Hash{1}}), 0},
		{"After", branched(cond.Branch{Keys: []int{3}, After: 1}), 0},
		{"After below 0", branched(cond.Branch{Keys: []int{3}, After: -1}), 0},
		{"Older", branched(cond.Branch{Keys: []int{3}, Older: 1}), 0},
		{"Older below 0", branched(cond.Branch{Keys: []int{3}, Older: -1}), 0},
		{"all of them", branched(cond.Branch{Keys: []int{3}, Lock: api.Hash{1}, After: 2, Older: 2}), 0},
		{"two branches", branched(mine, mine), 70},
		{"behind another's", branched(other, mine), 70},
		{"ahead of another's", branched(mine, other), 70},
		{"behind a Lock", branched(locked, mine), 70},
		{"behind eight others", branched(append(slices.Repeat([]cond.Branch{other}, 8), mine)...), 70},
		{"of parts in two branches", branched(cond.Branch{Keys: []int{3}, After: 1}, cond.Branch{Keys: []int{3}, Older: 1}), 0},
	} {
		wantShare(t, x.what, []tx.Out{x.out}, 3, x.n)
		wantShare(t, x.what+", and one beside it", []tx.Out{x.out, out(5, []int{3})}, 3, x.n+5)
		wantShare(t, x.what+", and one of another beside it", []tx.Out{out(5, []int{2}), x.out}, 3, x.n)
		wantShare(t, x.what+", twice", []tx.Out{x.out, x.out}, 3, 2*x.n)
	}
	wantShare(t, "no outputs", nil, 3, 0)
	wantShare(t, "no outputs", []tx.Out{}, 3, 0)
}

// Share: each party has its own, and who is no party may have some, too.
func TestShareParties(t *testing.T) {
	var outs []tx.Out
	all := []int{math.MinInt, -1, 0, 1, 2, 15, 16, 17, math.MaxInt}
	for i, who := range all {
		outs = append(outs, out(10+i, []int{who}, []int{5}))
	}
	for i, who := range all {
		wantShare(t, "each", outs, who, 10+i)
	}
	wantShare(t, "who is in all", outs, 5, 10+11+12+13+14+15+16+17+18)
	wantShare(t, "who is in none", outs, 4, 0)
	wantShare(t, "nobody's number", nil, math.MinInt, 0)
}

// Share: numbers: at MaxAmount and above it, more than an int holds, and below 0; the order tells nothing.
func TestShareNumbers(t *testing.T) {
	const half = 1 << 62
	for _, x := range []struct {
		amounts []int
		n       int
	}{
		{[]int{0}, 0}, {[]int{1}, 1}, {[]int{1, 2, 4}, 7}, {[]int{9, 0}, 9},
		{[]int{maxAmount}, maxAmount}, {[]int{maxAmount - 1, 1}, maxAmount}, {[]int{maxAmount / 2, maxAmount / 2}, maxAmount},
		{[]int{maxAmount + 1}, 0}, {[]int{maxAmount, 1}, 0}, {[]int{maxAmount, maxAmount}, 0}, {[]int{maxAmount/2 + 1, maxAmount / 2}, 0},
		{[]int{math.MaxInt}, 0}, {[]int{math.MaxInt, 1}, 0}, {[]int{math.MaxInt, math.MaxInt}, 0}, {[]int{math.MaxInt, math.MaxInt, 2}, 0}, {[]int{math.MaxInt, math.MaxInt, 12}, 0},
		{[]int{half, half, half, half}, 0}, {[]int{half, half, half, half, 10}, 0}, {slices.Repeat([]int{math.MaxInt}, 1000), 0},
		{[]int{-1}, -1}, {[]int{-5, 10}, 5}, {[]int{-10, 5}, -5}, {[]int{-maxAmount}, -maxAmount}, {[]int{maxAmount + 7, -7}, maxAmount}, {[]int{maxAmount + 7, -6}, 0}, {[]int{-6, maxAmount + 7}, 0},
		{[]int{math.MinInt}, math.MinInt}, {[]int{math.MinInt, 1}, math.MinInt + 1}, {[]int{math.MinInt, math.MaxInt}, -1}, {[]int{math.MinInt, math.MaxInt, 31}, 30},
		{[]int{math.MaxInt, math.MaxInt, math.MinInt, math.MinInt, 42}, 40}, {[]int{math.MinInt, math.MinInt, math.MaxInt, math.MaxInt, 42}, 40},
		{[]int{half, half, half, half, -half, -half, -half, -half, 10}, 10}, {append(slices.Repeat([]int{math.MaxInt}, 999), slices.Repeat([]int{-math.MaxInt}, 999)...), 0},
		{[]int{math.MinInt, -1}, math.MinInt}, {[]int{math.MinInt, math.MinInt}, math.MinInt}, {[]int{math.MinInt, math.MinInt, 10}, math.MinInt}, {slices.Repeat([]int{math.MinInt}, 1000), math.MinInt},
		{[]int{1 << 32}, 1 << 32}, {[]int{1<<32 - 1, 1}, 1 << 32}, {[]int{1<<32 - 1, 1<<32 - 1, 3}, 1<<33 + 1}, {[]int{-1 << 32}, -1 << 32}, {[]int{-1<<32 - 1, -1}, -1<<32 - 2},
	} {
		var outs []tx.Out
		for i, n := range x.amounts {
			outs = append(outs, out(n, []int{3}), out(1000+i, []int{2}))
		}
		what := fmt.Sprint(len(x.amounts), " amounts, ", x.amounts[:min(9, len(x.amounts))])
		wantShare(t, what, outs, 3, x.n)
		slices.Reverse(outs)
		wantShare(t, what+" turned", outs, 3, x.n)
	}
}

// Share: many outputs of made-up amounts and branches, beside the plain rule.
func TestShareMany(t *testing.T) {
	r := rand.New(rand.NewPCG(18, 1))
	kinds := []int{0, 1, -1, 100, maxAmount, maxAmount / 2, -maxAmount, math.MaxInt, math.MinInt, 1 << 32, -1 << 32, 1 << 62, -1 << 62}
	for range 3000 {
		var outs []tx.Out
		for range r.IntN(9) {
			o := tx.Out{Amount: kinds[r.IntN(len(kinds))] + r.IntN(3)}
			for range r.IntN(4) {
				b := cond.Branch{Keys: upTo(4)[r.IntN(3):][:r.IntN(3)]}
				switch r.IntN(8) {
				case 0:
					b.Lock[r.IntN(32)]++
				case 1:
					b.After = 1 + r.IntN(9)
				case 2:
					b.Older = 1 + r.IntN(9)
				}
				o.Cond.Branches = append(o.Cond.Branches, b)
			}
			outs = append(outs, o)
		}
		for who := -1; who < 5; who++ {
			wantShare(t, outsText(outs), outs, who, plainShare(outs, who))
		}
	}
}
