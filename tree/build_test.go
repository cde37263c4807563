package tree_test

import (
	"fmt"
	"math"
	"slices"
	"strings"
	"testing"

	"bayou/api"
	"bayou/cond"
	"bayou/tree"
	"bayou/tx"
)

// id is the ID of a transaction that is written by hand, as text.
func id(lock int, at tx.Point, amount int, keys ...int) string {
	return sumText(tx.ID(tx.Tx{Lock: lock, Ins: []tx.In{{Point: at}}, Outs: []tx.Out{out(amount, keys)}}))
}

// wantText holds transactions against those that are written by hand.
func wantText(t *testing.T, what string, got []tx.Tx, err error, lines ...string) {
	t.Helper()
	wantErr(t, what, err, 0)
	if want := strings.Join(lines, "\n") + "\n"; told(got) != want {
		t.Errorf("%s:\n%swant\n%s", what, told(got), want)
	}
}

// TR3: Build, word by word, of one rank and of three.
func TestBuild(t *testing.T) {
	s := base()
	rich := out(35, []int{2})
	rich.Cond.Branches = append(rich.Cond.Branches, cond.Branch{Keys: []int{1, 4}, Lock: api.Hash{8}, After: 9, Older: 10})
	all, err := tree.Build(s.c, s.p, []tx.Out{out(50, []int{1}, []int{2, 5}), rich})
	first := id(20, point(9, 3), 95, 1, 2, 5)
	second := id(24, tx.At(tx.Tx{Lock: 20, Ins: []tx.In{{Point: point(9, 3)}}, Outs: []tx.Out{out(95, []int{1, 2, 5})}}, 0), 90, 1, 2, 5)
	wantText(t, "three ranks", all, err,
		"lock 20", `in 09:3 by 0 ""`, "out 95 | [1 2 5]",
		"lock 24", "in "+first+`:0 by 0 ""`, "out 90 | [1 2 5]",
		"lock 37", "in "+second+`:0 by 0 ""`, "out 50 | [1] | [2 5]", "out 35 | [2] | [1 4] lock 08 after 9 older 10")
	s.c.Depth = 1
	all, err = tree.Build(s.c, tree.Path{11}, []tx.Out{out(95, []int{3})})
	wantText(t, "one rank", all, err, "lock 11", `in 09:3 by 0 ""`, "out 95 | [3]")
	s.c.Fee = 0
	all, err = tree.Build(s.c, tree.Path{20}, []tx.Out{out(100, []int{3})})
	wantText(t, "one rank without a fee", all, err, "lock 20", `in 09:3 by 0 ""`, "out 100 | [3]")
}

// TR3: each rank of eight waits for its height and a Span for each rank ahead of it, and has a fee less than the one ahead of it.
func TestBuildDeep(t *testing.T) {
	c := tree.Config{Point: point(4, 63), Amount: 1000, Keys: upTo(16), Depth: 8, First: 109, Last: 10, Step: 9, Fee: 7}
	p := tree.Path{109, 100, 91, 82, 10, 19, 109, 10}
	all, err := tree.Build(c, p, []tx.Out{out(944, []int{15})})
	wantErr(t, "Build", err, 0)
	at := c.Point
	for rank, lock := range []int{109, 200, 291, 382, 410, 519, 709, 710} {
		amount, keys := 1000-7*(rank+1), upTo(16)
		if rank == 7 {
			keys = []int{15}
		}
		x := tx.Tx{Lock: lock, Ins: []tx.In{{Point: at}}, Outs: []tx.Out{out(amount, keys)}}
		wantTxs(t, fmt.Sprint("the rank ", rank), all[rank:rank+1], nil, []tx.Tx{x}, 0)
		at = tx.Point{Tx: tx.ID(x)}
	}
	due, err := tree.Due(c, p)
	want(t, "Due", due, err, 710, 0)
}

// TR3: Build and Due of each path of small trees: the last rank waits for what Due says, and each one waits longer than all ahead of it may.
func TestBuildSmall(t *testing.T) {
	outs := []tx.Out{out(10, []int{0}), out(10, []int{3})}
	for _, c := range smalls() {
		for _, p := range every(c) {
			s := scene{fmt.Sprint(c), c, p, nil, outs}
			s.tryPath(t, p)
			all, err := tree.Build(c, p, outs)
			wantErr(t, s.what, err, 0)
			due, err := tree.Due(c, p)
			want(t, fmt.Sprint(s.what, ": Due of ", p), due, err, all[len(all)-1].Lock, 0)
			for rank, x := range all {
				if least := c.Last + rank*(c.First-c.Last+1); x.Lock < least || rank > 0 && all[rank-1].Lock >= least {
					t.Errorf("%s: %v: the rank %d waits for %d", s.what, p, rank, x.Lock)
				}
			}
		}
	}
}

// outsOf are outputs of 1 of some amounts.
func outsOf(amounts ...int) []tx.Out {
	var l []tx.Out
	for _, n := range amounts {
		l = append(l, out(n, []int{1}))
	}
	return l
}

// unlike are amounts that are not a Room of 85 together; with some of them what is more than an int, or two of them, holds is cut off.
func unlike() [][]int {
	return [][]int{
		nil, {84}, {86}, {-85}, {0}, {85, 1}, {85, -1}, {50, 34}, {50, 36}, {100}, {95}, {90}, {80}, {85, 85}, {maxAmount}, {maxAmount + 85},
		{math.MaxInt, math.MaxInt, 2, 85}, {85, 2, math.MaxInt, math.MaxInt}, {math.MinInt, math.MinInt, 85}, {85, math.MinInt, math.MinInt},
		{1 << 62, 1 << 62, 1 << 62, 1 << 62, 85}, {math.MinInt, 85}, {math.MaxInt, 86}, {math.MaxInt, 1, 85}, {math.MinInt + 85}, {math.MaxInt},
		{math.MinInt, math.MinInt, math.MinInt, math.MinInt, 85}, {-1 << 62, -1 << 62, -1 << 62, -1 << 62, 85}, {1 << 32, 85}, {-1 << 32, 85},
		{math.MaxInt, math.MinInt, 85}, {math.MaxInt, math.MinInt, 87}, {-1, 85}, {-1, 87},
	}
}

// TR3: outputs that have so much together that it wraps round, of amounts that an output may have.
func TestBuildMany(t *testing.T) {
	for _, n := range []int{maxAmount, maxAmount / 2, maxAmount / 8} {
		for _, more := range []int{0, 84, 85, 86} {
			s := base()
			s.outs = outsOf(append(slices.Repeat([]int{n}, (1<<62)/n*4), more)...)
			s.what = fmt.Sprint(len(s.outs), " outputs of ", n, " and ", more)
			_, err := tree.Build(s.c, s.p, s.outs)
			wantErr(t, s.what, err, api.ErrFunds)
		}
	}
}

// outFaults are those of outputs: what is not a Room together, and behind it what tx.Check finds, in its order, ahead of it the point of the first rank.
func outFaults() faults {
	var l faults
	for _, amounts := range unlike() {
		l.add(4, api.ErrFunds, "outs", fmt.Sprint(len(amounts), " amounts: ", amounts[:min(len(amounts), 6)]), func(s *scene) { s.outs = outsOf(amounts...) })
	}
	l.numbers(5, api.ErrRange, "N", func(s *scene) *int { return &s.c.Point.N }, -1, maxIO, math.MinInt, math.MaxInt)
	bad := func(no api.Errno, what string, outs ...tx.Out) {
		l.add(6, no, "outs", what, func(s *scene) { s.outs = cloneOuts(outs) })
	}
	dusty := slices.Repeat([]int{1}, 64)
	bad(api.ErrRange, "65 outputs", outsOf(append(dusty, 21)...)...)
	bad(api.ErrRange, "1000 outputs, most of nothing", outsOf(append(make([]int, 999), 85)...)...)
	bad(api.ErrDust, "64 outputs, too small", outsOf(append(dusty[:63], 22)...)...)
	bad(api.ErrDust, "76 and 9", outsOf(76, 9)...)
	bad(api.ErrDust, "9 and 76", outsOf(9, 76)...)
	bad(api.ErrDust, "85 and 0", outsOf(85, 0)...)
	bad(api.ErrDust, "-5 and 90", outsOf(-5, 90)...)
	bad(api.ErrDust, "90 and -5", outsOf(90, -5)...)
	bad(api.ErrDust, "less than nothing ahead of more than MaxAmount", outsOf(-maxAmount, maxAmount+85)...)
	bad(api.ErrOver, "more than MaxAmount ahead of less than nothing", outsOf(maxAmount+85, -maxAmount)...)
	bad(api.ErrOver, "all that an int holds, and less it", outsOf(math.MaxInt, -math.MaxInt, 85)...)
	bad(api.ErrDust, "the least int, and what makes up for it", outsOf(math.MinInt, math.MaxInt, 86)...)
	bad(api.ErrOver, "twice all, and less it", outsOf(math.MaxInt, math.MaxInt, math.MinInt, math.MinInt, 87)...)
	bad(api.ErrArg, "no branch", tx.Out{Amount: 85})
	bad(api.ErrArg, "no key", out(85, []int{}))
	bad(api.ErrArg, "keys that fall", out(85, []int{2, 1}))
	bad(api.ErrArg, "a stranger", out(75, []int{1}), out(10, []int{16}))
	bad(api.ErrArg, "nine branches", out(85, slices.Repeat([][]int{{1}}, 9)...))
	bad(api.ErrDust, "too small and no key", out(9, []int{}), out(76, []int{1}))
	bad(api.ErrArg, "no key ahead of too small", out(76, []int{}), out(9, []int{1}))
	return l
}

// TR3: each error of Build alone, and each two at once; for one rank, too, whose transaction has both the point and the outputs.
func TestBuildFaults(t *testing.T) {
	l := append(append(checkFaults(), pathFaults()...), outFaults()...)
	l.each(t, func(s scene, no api.Errno) {
		_, err := tree.Build(s.c, s.p, s.outs)
		wantErr(t, s.what, err, no)
	})
	outFaults().each(t, func(s scene, no api.Errno) {
		s.c.Depth, s.c.Amount, s.p = 1, 90, tree.Path{17}
		s.try(t)
		_, err := tree.Build(s.c, s.p, s.outs)
		wantErr(t, s.what+", of one rank", err, no)
	})
}

// TR3: what is no error of Build: amounts at their bounds, and as many outputs as may be.
func TestBuildBounds(t *testing.T) {
	for _, x := range []struct {
		what   string
		amount int
		fee    int
		n      int
		outs   []tx.Out
	}{
		{"Dust", 25, 5, 3, outsOf(10)},
		{"Dust without a fee", 10, 0, 3, outsOf(10)},
		{"MaxAmount", maxAmount, 0, 3, outsOf(maxAmount)},
		{"MaxAmount of two", maxAmount, 0, 0, outsOf(maxAmount-10, 10)},
		{"MaxAmount less fees", maxAmount, 1 << 48, 63, outsOf(1 << 48)},
		{"64 outputs", 655, 5, 3, outsOf(slices.Repeat([]int{10}, 64)...)},
		{"a round of all parties", 100, 5, 3, []tx.Out{out(85, slices.Repeat([][]int{upTo(16)}, 8)...)}},
	} {
		s := base()
		s.c.Amount, s.c.Fee, s.c.Point.N, s.outs, s.what = x.amount, x.fee, x.n, x.outs, x.what
		s.try(t)
		all, err := tree.Build(s.c, s.p, s.outs)
		wantErr(t, x.what, err, 0)
		for rank, y := range all {
			total, err := tx.Total(y)
			want(t, x.what, total, err, x.amount-(rank+1)*x.fee, 0)
			wantErr(t, x.what, tx.Check(y), 0)
		}
	}
}

// TR3: the point is asked for by Build alone; other calls let any by.
func TestPointAlone(t *testing.T) {
	for _, n := range []int{-1, maxIO, math.MaxInt} {
		s := base()
		s.c.Point.N, s.what = n, fmt.Sprint("N ", n)
		s.try(t)
		_, err := tree.Next(s.c, s.p)
		wantErr(t, s.what+": Next", err, 0)
		_, err = tree.Due(s.c, s.p)
		wantErr(t, s.what+": Due", err, 0)
		_, err = tree.Build(s.c, s.p, s.outs)
		wantErr(t, s.what+": Build", err, api.ErrRange)
	}
}

// TR3: Due, told by hand.
func TestDue(t *testing.T) {
	for _, x := range []struct {
		p   tree.Path
		due int
	}{
		{tree.Path{20}, 20}, {tree.Path{11}, 11},
		{tree.Path{20, 20}, 30}, {tree.Path{11, 20}, 30}, {tree.Path{20, 11}, 21},
		{tree.Path{20, 14, 17}, 37}, {tree.Path{11, 11, 11}, 31},
		{tree.Path{20, 20, 20, 20, 20, 20, 20, 14}, 84},
	} {
		c := base().c
		c.Depth = len(x.p)
		due, err := tree.Due(c, x.p)
		want(t, fmt.Sprint("Due of ", x.p), due, err, x.due, 0)
	}
	c := tree.Config{Point: point(1, 0), Amount: 10, Keys: []int{0, 1}, Depth: 8, First: (maxHeight - 8) / 9, Last: 2, Step: 1 << 30}
	p, err := tree.Begin(c)
	wantErr(t, "Begin", err, 0)
	due, err := tree.Due(c, p)
	want(t, "Due of a great tree", due, err, c.First+7*(c.First-1), 0)
	all, err := tree.Build(c, p, outsOf(10))
	wantErr(t, "Build of a great tree", err, 0)
	if all[7].Lock != due || due > maxHeight {
		t.Errorf("the last rank waits for %d, and Due is %d", all[7].Lock, due)
	}
}

// FuzzTree holds all calls of a tree, of paths and of outputs against what they must answer.
func FuzzTree(f *testing.F) {
	f.Add(3, 20, 11, 3, 5, 100, []byte{1, 2, 5}, []byte{20, 14, 17}, []byte{20, 17, 11}, []byte{50, 35})
	f.Add(1, maxHeight/2, 1, 1<<33, 0, 10, []byte{0, 15}, []byte{1}, []byte{}, []byte{10})
	f.Add(9, math.MaxInt, math.MinInt, -1, 0, 10, []byte{}, []byte{1}, []byte{}, []byte{})
	f.Fuzz(func(t *testing.T, depth, first, last, step, fee, amount int, keys, p, q, amounts []byte) {
		s := scene{what: "fuzz", c: tree.Config{Point: point(1, len(keys)), Amount: amount, Depth: depth, First: first, Last: last, Step: step, Fee: fee}}
		for _, k := range keys {
			s.c.Keys = append(s.c.Keys, int(k)-1)
		}
		for _, h := range p {
			s.p = append(s.p, first-int(h)*step)
		}
		for _, h := range q {
			s.q = append(s.q, int(h))
		}
		rest := amount - depth*fee
		for _, n := range amounts {
			s.outs = append(s.outs, out(int(n)-1, []int{int(n) % 17}))
			rest -= int(n) - 1
		}
		s.try(t)
		s.outs = append(s.outs, out(rest, []int{1}))
		s.try(t)
	})
}
