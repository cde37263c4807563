package tree_test

import (
	"fmt"
	"math"
	"math/rand/v2"
	"slices"
	"testing"

	"bayou/api"
	"bayou/tree"
)

// fault is what is wrong of what a call is given: the rank of its error among the call's, and what it changes, as two faults of one thing can't be at once.
type fault struct {
	what, thing string
	rank        int
	no          api.Errno
	do          func(s *scene)
}

// faults are faults that are gathered.
type faults []fault

func (l *faults) add(rank int, no api.Errno, thing, what string, do func(s *scene)) {
	*l = append(*l, fault{what, thing, rank, no, do})
}

// numbers adds a fault for each of some numbers.
func (l *faults) numbers(rank int, no api.Errno, thing string, at func(s *scene) *int, numbers ...int) {
	for _, n := range numbers {
		l.add(rank, no, thing, fmt.Sprint(thing, " ", n), func(s *scene) { *at(s) = n })
	}
}

// each goes over all faults alone, and over all two at once, of which the one ahead is told; all calls of what is faulty are held against what they must answer, too.
func (l faults) each(t *testing.T, try func(s scene, no api.Errno)) {
	t.Helper()
	changed := func(no api.Errno, all ...fault) {
		s := base().clone()
		for _, x := range all {
			x.do(&s)
			s.what += ": " + x.what
		}
		s.try(t)
		try(s, no)
	}
	for i, a := range l {
		changed(a.no, a)
		for _, b := range l[i+1:] {
			if a.thing == b.thing {
				continue
			}
			first := a
			if b.rank < a.rank {
				first = b
			}
			changed(first.no, a, b)
		}
	}
}

// checkFaults are those of Check, in its order.
func checkFaults() faults {
	var l faults
	l.numbers(0, api.ErrArg, "Depth", func(s *scene) *int { return &s.c.Depth }, 0, -1, 9, 1<<62, math.MinInt, math.MaxInt)
	l.numbers(0, api.ErrArg, "Step", func(s *scene) *int { return &s.c.Step }, 0, -1, -3, math.MinInt)
	l.numbers(0, api.ErrArg, "Last", func(s *scene) *int { return &s.c.Last }, 0, -1, 21, math.MinInt, math.MaxInt)
	l.numbers(0, api.ErrArg, "First", func(s *scene) *int { return &s.c.First }, 10, 0, -1, maxHeight/2, maxHeight, maxHeight+1, math.MinInt, math.MaxInt)
	l.numbers(0, api.ErrArg, "Fee", func(s *scene) *int { return &s.c.Fee }, -1, maxAmount+1, math.MinInt, math.MaxInt)
	l.numbers(0, api.ErrArg, "Amount", func(s *scene) *int { return &s.c.Amount }, 9, 0, -1, maxAmount+1, math.MinInt, math.MaxInt)
	for _, keys := range badKeys() {
		l.add(1, api.ErrParty, "Keys", fmt.Sprint("Keys ", keys), func(s *scene) { s.c.Keys = keys })
	}
	l.numbers(2, api.ErrDust, "Fee", func(s *scene) *int { return &s.c.Fee }, 31, 34, 100, maxAmount)
	l.numbers(2, api.ErrDust, "Amount", func(s *scene) *int { return &s.c.Amount }, 24, 15, 14, 10)
	return l
}

// badKeys are keys that no tree may have.
func badKeys() [][]int {
	all := upTo(17)
	return [][]int{
		nil, {}, {0}, {15}, {16}, {-1}, {1, 1}, {2, 1}, {0, 0, 1}, {0, 1, 1}, {1, 0, 2}, {0, 2, 1}, {-1, 0}, {0, -1}, {15, 16}, {0, 16}, {3, 16, 17},
		{math.MinInt, 1}, {1, math.MaxInt}, all, all[1:], append(slices.Clone(all[:16]), 15), append([]int{0}, all[:16]...), make([]int, 5000), upTo(5000),
	}
}

// upTo are the numbers from 0 on, so many.
func upTo(n int) []int {
	l := make([]int, n)
	for i := range l {
		l[i] = i
	}
	return l
}

// TR1: each error of Check alone and each two at once; Room and Begin answer the same, and all calls of a path.
func TestCheckFaults(t *testing.T) {
	base().try(t)
	checkFaults().each(t, func(s scene, no api.Errno) {
		wantErr(t, s.what+": Check", tree.Check(s.c), no)
		_, err := tree.Room(s.c)
		wantErr(t, s.what+": Room", err, no)
		_, err = tree.Begin(s.c)
		wantErr(t, s.what+": Begin", err, no)
		wantPathFault(t, s, no)
	})
}

// wantPathFault holds the calls of a path that can't be, or of a tree that can't, against their error; Newer has none, and is false.
func wantPathFault(t *testing.T, s scene, no api.Errno) {
	t.Helper()
	_, err := tree.Next(s.c, s.p)
	wantErr(t, s.what+": Next", err, no)
	_, err = tree.Left(s.c, s.p)
	wantErr(t, s.what+": Left", err, no)
	_, err = tree.Due(s.c, s.p)
	wantErr(t, s.what+": Due", err, no)
	_, err = tree.Build(s.c, s.p, s.outs)
	wantErr(t, s.what+": Build", err, no)
	if tree.Newer(s.c, s.p, s.q) || tree.Newer(s.c, s.q, s.p) {
		t.Errorf("%s: Newer of what can't be", s.what)
	}
}

// bound is a change of the base, and what Check then answers.
type bound struct {
	what string
	no   api.Errno
	do   func(c *tree.Config)
}

// holdBounds holds Check against bounds.
func holdBounds(t *testing.T, l []bound) {
	t.Helper()
	for _, x := range l {
		s := base()
		x.do(&s.c)
		s.what = x.what
		s.try(t)
		wantErr(t, x.what, tree.Check(s.c), x.no)
	}
}

// TR1: Check's bounds of one number, told by hand; what is not of Check changes nothing.
func TestCheckBounds(t *testing.T) {
	holdBounds(t, []bound{
		{"as it is", 0, func(c *tree.Config) {}},
		{"Depth 0", api.ErrArg, func(c *tree.Config) { c.Depth = 0 }},
		{"Depth 1", 0, func(c *tree.Config) { c.Depth = 1 }},
		{"Depth 8", 0, func(c *tree.Config) { c.Depth = 8 }},
		{"Depth 9", api.ErrArg, func(c *tree.Config) { c.Depth = 9 }},
		{"Step 0", api.ErrArg, func(c *tree.Config) { c.Step = 0 }},
		{"Step 1", 0, func(c *tree.Config) { c.Step = 1 }},
		{"Step of all", 0, func(c *tree.Config) { c.Step = 9 }},
		{"Step of more than all", 0, func(c *tree.Config) { c.Step = 10 }},
		{"the greatest Step", 0, func(c *tree.Config) { c.Step = math.MaxInt }},
		{"Last 0", api.ErrArg, func(c *tree.Config) { c.Last = 0 }},
		{"Last 1", 0, func(c *tree.Config) { c.Last = 1 }},
		{"First below Last", api.ErrArg, func(c *tree.Config) { c.First = 10 }},
		{"First at Last", 0, func(c *tree.Config) { c.First = 11 }},
		{"First above Last", 0, func(c *tree.Config) { c.First = 12 }},
		{"First and Last 1", 0, func(c *tree.Config) { c.First, c.Last = 1, 1 }},
		{"First and Last 0", api.ErrArg, func(c *tree.Config) { c.First, c.Last = 0, 0 }},
		{"Fee -1", api.ErrArg, func(c *tree.Config) { c.Fee = -1 }},
		{"Fee 0", 0, func(c *tree.Config) { c.Fee = 0 }},
		{"Fee 30", 0, func(c *tree.Config) { c.Fee = 30 }},
		{"Fee 31", api.ErrDust, func(c *tree.Config) { c.Fee = 31 }},
		{"Fee MaxAmount", api.ErrDust, func(c *tree.Config) { c.Fee = maxAmount }},
		{"Fee MaxAmount of MaxAmount, eight times", api.ErrDust, func(c *tree.Config) { c.Fee, c.Amount, c.Depth = maxAmount, maxAmount, 8 }},
		{"Fee MaxAmount + 1", api.ErrArg, func(c *tree.Config) { c.Fee = maxAmount + 1 }},
		{"Fee of all but Dust", 0, func(c *tree.Config) { c.Fee, c.Amount, c.Depth = maxAmount-dust, maxAmount, 1 }},
		{"Fee of one more", api.ErrDust, func(c *tree.Config) { c.Fee, c.Amount, c.Depth = maxAmount-dust+1, maxAmount, 1 }},
		{"Amount 9", api.ErrArg, func(c *tree.Config) { c.Amount, c.Fee = 9, 0 }},
		{"Amount 10", 0, func(c *tree.Config) { c.Amount, c.Fee = 10, 0 }},
		{"Amount 10 with a fee", api.ErrDust, func(c *tree.Config) { c.Amount, c.Fee = 10, 1 }},
		{"Amount 24", api.ErrDust, func(c *tree.Config) { c.Amount = 24 }},
		{"Amount 25", 0, func(c *tree.Config) { c.Amount = 25 }},
		{"Amount 25, a rank more", api.ErrDust, func(c *tree.Config) { c.Amount, c.Depth = 25, 4 }},
		{"Amount MaxAmount", 0, func(c *tree.Config) { c.Amount = maxAmount }},
		{"Amount MaxAmount + 1", api.ErrArg, func(c *tree.Config) { c.Amount = maxAmount + 1 }},
		{"a point that can't be", 0, func(c *tree.Config) { c.Point.N = -1 }},
	})
}

// TR1: First less Last of 255 Steps and of 256, also where Step does not divide it.
func TestCheckSteps(t *testing.T) {
	for _, step := range []int{1, 2, 3, 7, 1000, 1 << 20} {
		for _, last := range []int{1, 11, 1 << 30} {
			for _, x := range []struct {
				more int
				no   api.Errno
			}{{0, 0}, {254 * step, 0}, {255*step - 1, 0}, {255 * step, 0}, {256*step - 1, 0}, {256 * step, api.ErrArg}, {257 * step, api.ErrArg}} {
				s := base()
				s.c.Step, s.c.Last, s.c.First = step, last, last+x.more
				s.what = fmt.Sprintf("from %d down to %d by %d", s.c.First, last, step)
				s.p, s.q = tree.Path{s.c.First, s.c.First, s.c.First - x.more/step*step}, tree.Path{last, last, last}
				s.try(t)
				wantErr(t, s.what, tree.Check(s.c), x.no)
			}
		}
	}
}

// TR1: First and Depth Spans together at MaxHeight, below and above it; all ranks' heights are then tried, too.
func TestCheckSpans(t *testing.T) {
	for depth := 1; depth <= 8; depth++ {
		for _, last := range []int{1, 2, 3, 4, 5, 6, 7, 8, 9, 100, maxHeight / 2, maxHeight - 9 - depth, maxHeight - depth} {
			most := (maxHeight + depth*(last-1)) / (depth + 1)
			for _, first := range []int{most - 1, most, most + 1} {
				if first < last {
					continue
				}
				s := base()
				s.c.Depth, s.c.First, s.c.Last, s.c.Step = depth, first, last, 1<<38
				s.p, _ = plainBegin(s.c)
				s.q = slices.Repeat(tree.Path{heights(s.c)[len(heights(s.c))-1]}, depth)
				s.what = fmt.Sprintf("Depth %d, from %d down to %d", depth, first, last)
				s.try(t)
				no := api.Errno(0)
				if first > most {
					no = api.ErrArg
				}
				wantErr(t, s.what, tree.Check(s.c), no)
			}
		}
	}
	holdBounds(t, []bound{
		{"at MaxHeight", 0, func(c *tree.Config) { c.Depth, c.First, c.Last = 1, maxHeight-1, maxHeight-1 }},
		{"at MaxHeight, a Span of 2", 0, func(c *tree.Config) { c.Depth, c.First, c.Last = 1, maxHeight-2, maxHeight-3 }},
		{"one above", api.ErrArg, func(c *tree.Config) { c.Depth, c.First, c.Last = 1, maxHeight-1, maxHeight-2 }},
		{"First MaxHeight", api.ErrArg, func(c *tree.Config) { c.Depth, c.First, c.Last = 1, maxHeight, maxHeight }},
		{"First MaxHeight + 1", api.ErrArg, func(c *tree.Config) { c.Depth, c.First, c.Last = 1, maxHeight+1, maxHeight+1 }},
	})
}

// greatNumbers are those near the bounds of a height and of an int, and those of which a sum or a product wraps round.
func greatNumbers() []int {
	return []int{
		math.MinInt, math.MinInt + 1, -maxHeight, -1, 0, 1, 2, 20, 1 << 20, maxHeight - 9, maxHeight - 1, maxHeight, maxHeight + 1,
		1 << 59, 1 << 60, 1 << 61, 1 << 62, math.MaxInt/2 + 1, math.MaxInt - 1, math.MaxInt,
	}
}

// TR1, rule 1: great numbers of Depth, First, Last and Step, all together.
func TestCheckGreat(t *testing.T) {
	for _, depth := range []int{1, 2, 8, 1 << 61, 1 << 62, math.MaxInt} {
		for _, first := range greatNumbers() {
			for _, last := range greatNumbers() {
				for _, step := range []int{math.MinInt, -1, 0, 1, 1 << 33, maxHeight, math.MaxInt} {
					s := base()
					s.c.Depth, s.c.First, s.c.Last, s.c.Step = depth, first, last, step
					s.p, s.q = slices.Repeat(tree.Path{first}, min(depth, 9)), slices.Repeat(tree.Path{last}, min(depth, 9))
					s.what = fmt.Sprintf("Depth %d, First %d, Last %d, Step %d", depth, first, last, step)
					s.try(t)
				}
			}
		}
	}
}

// TR1: all keys that may be, and all lists of two.
func TestCheckKeys(t *testing.T) {
	for set := range 1 << parties {
		s := base()
		s.c.Keys = nil
		for k := range parties {
			if set>>k&1 == 1 {
				s.c.Keys = append(s.c.Keys, k)
			}
		}
		no := api.Errno(0)
		if len(s.c.Keys) < 2 {
			no = api.ErrParty
		}
		wantErr(t, fmt.Sprint("keys ", s.c.Keys), tree.Check(s.c), no)
	}
	for a := -2; a <= parties+1; a++ {
		for b := -2; b <= parties+1; b++ {
			s := base()
			s.c.Keys = []int{a, b}
			no := api.ErrParty
			if 0 <= a && a < b && b <= 15 {
				no = 0
			}
			s.what = fmt.Sprint("keys ", s.c.Keys)
			s.try(t)
			wantErr(t, s.what, tree.Check(s.c), no)
		}
	}
}

// TR1: Room and Begin, told by hand.
func TestRoomBegin(t *testing.T) {
	for _, x := range []struct {
		depth, amount, fee, first int
		room                      int
		path                      tree.Path
	}{
		{1, 10, 0, 11, 10, tree.Path{11}},
		{1, 15, 5, 12, 10, tree.Path{12}},
		{2, 100, 5, 20, 90, tree.Path{20, 20}},
		{3, 100, 30, 20, 10, tree.Path{20, 20, 20}},
		{8, maxAmount, 7, 15, maxAmount - 56, tree.Path{15, 15, 15, 15, 15, 15, 15, 15}},
	} {
		c := base().c
		c.Depth, c.Amount, c.Fee, c.First = x.depth, x.amount, x.fee, x.first
		room, err := tree.Room(c)
		want(t, fmt.Sprint("Room of ", c), room, err, x.room, 0)
		p, err := tree.Begin(c)
		want(t, fmt.Sprint("Begin of ", c), p, err, x.path, 0)
	}
}

// oneOf is one of some numbers.
func oneOf(r *rand.Rand, l ...int) int { return l[r.IntN(len(l))] }

// TR1 to TR3: many trees and paths, whose numbers lie around what may be.
func TestMany(t *testing.T) {
	r := rand.New(rand.NewPCG(17, 52))
	for range 30000 {
		s := base()
		s.c.Depth, s.c.Step, s.c.Last = oneOf(r, 0, 1, 1, 2, 2, 3, 4, 8, 9), oneOf(r, 0, 1, 2, 3, 4, 100), oneOf(r, 0, 1, 2, 5, 11)
		s.c.First = s.c.Last + oneOf(r, -1, 0, 1, 2, 3, 7, 9, 255, 256, 511, 512)
		s.c.Fee, s.c.Amount = oneOf(r, -1, 0, 1, 2, 11), oneOf(r, 9, 10, 11, 12, 18, 26, 32, 98)
		s.p, s.q = anyPath(r, s.c), anyPath(r, s.c)
		room := s.c.Amount - s.c.Depth*s.c.Fee
		s.outs = s.outs[:1]
		s.outs[0].Amount = room + oneOf(r, 0, 0, 0, -1, 1)
		s.try(t)
	}
}

// anyPath is a path of a tree, or something like one.
func anyPath(r *rand.Rand, c tree.Config) tree.Path {
	var p tree.Path
	for range c.Depth + oneOf(r, 0, 0, 0, 0, 0, 0, 0, -1, 1) {
		h := c.First - oneOf(r, 0, 0, 1, 2, 3, 4, 255)*c.Step
		if h < c.Last {
			h = c.First
		}
		p = append(p, h+oneOf(r, 0, 0, 0, 0, 0, 0, 0, 0, 0, 0, 0, -1, 1))
	}
	return p
}
