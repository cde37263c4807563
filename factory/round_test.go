package factory_test

import (
	"fmt"
	"math"
	"slices"
	"testing"

	"bayou/api"
	"bayou/factory"
	"bayou/oath"
	"bayou/tree"
	"bayou/tx"
)

// The kinds are numbered from 1 on.
func TestKinds(t *testing.T) {
	if got := []int{factory.Offer, factory.Signed, factory.Refuse}; !slices.Equal(got, []int{kindOffer, kindSigned, kindRefuse}) {
		t.Errorf("the kinds are %v", got)
	}
}

// tryRound holds a round's path against what it must be.
func tryRound(t *testing.T, what string, c tree.Config, n int) api.Errno {
	t.Helper()
	wanted, no := plainRound(t, c, n)
	got, err := factory.Round(c, n)
	want(t, fmt.Sprint(what, ": Round of ", n), got, err, wanted, no)
	return no
}

// FA1: Round, told by hand.
func TestRound(t *testing.T) {
	for _, x := range []struct {
		n  int
		no api.Errno
		p  tree.Path
	}{
		{0, 0, tree.Path{20, 20}}, {1, 0, tree.Path{20, 18}}, {5, 0, tree.Path{20, 10}}, {6, 0, tree.Path{18, 20}}, {7, 0, tree.Path{18, 18}}, {35, 0, tree.Path{10, 10}},
		{36, api.ErrSlot, nil}, {37, api.ErrSlot, nil}, {2000, api.ErrSlot, nil},
		{-1, api.ErrRange, nil}, {2001, api.ErrRange, nil}, {math.MinInt, api.ErrRange, nil}, {math.MaxInt, api.ErrRange, nil}, {1 << 32, api.ErrRange, nil}, {-1 << 32, api.ErrRange, nil},
	} {
		got, err := factory.Round(base(), x.n)
		want(t, fmt.Sprint("Round of ", x.n), got, err, x.p, x.no)
	}
	for _, x := range []struct {
		n int
		p tree.Path
	}{{0, tree.Path{20, 20, 20, 20, 20}}, {1, tree.Path{20, 20, 20, 20, 18}}, {1999, tree.Path{18, 14, 18, 14, 18}}, {2000, tree.Path{18, 14, 18, 14, 16}}} {
		got, err := factory.Round(wide(), x.n)
		want(t, fmt.Sprint("Round of ", x.n), got, err, x.p, 0)
	}
}

// trees are trees of few paths and of many, of one rank and of more, of one height and of more; of some of them Step does not divide First less Last.
func trees() []tree.Config {
	var l []tree.Config
	for _, x := range [][4]int{{1, 9, 9, 1}, {1, 9, 8, 1}, {1, 9, 5, 3}, {2, 9, 5, 2}, {2, 4, 3, 9}, {3, 7, 1, 4}, {8, 2, 1, 1}, {8, 5, 5, 5}, {1, 300, 45, 1}, {2, 50, 6, 1}, {3, 21, 9, 1}, {8, 1000, 1, 7}} {
		c := base()
		c.Depth, c.First, c.Last, c.Step, c.Amount = x[0], x[1], x[2], x[3], 90+5*x[0]
		l = append(l, c)
	}
	return append(l, base(), wide())
}

// FA1: Round of trees of as many paths as there are rounds, of fewer and of more: at all bounds, and around each tree's last path.
func TestRoundTrees(t *testing.T) {
	for _, c := range trees() {
		paths := 1
		for range c.Depth {
			paths = min(paths*len(heights(c)), 4000)
		}
		for _, n := range []int{math.MinInt, -2, -1, 0, 1, 2, 3, 17, 255, 256, 1000, paths - 2, paths - 1, paths, paths + 1, 1998, 1999, 2000, 2001, 2002, math.MaxInt} {
			no := tryRound(t, fmt.Sprint(c), c, n)
			if wanted := n >= 0 && n <= mostRounds && n < paths; wanted != (no == 0) {
				t.Errorf("%v: the round %d: %d, and there are %d paths", c, n, no, paths)
			}
		}
	}
}

// FA1: all rounds of some trees, each newer than the one ahead of it.
func TestRoundAll(t *testing.T) {
	for _, c := range []tree.Config{base(), trees()[6], trees()[8]} {
		var ahead tree.Path
		for n := 0; ; n++ {
			if tryRound(t, fmt.Sprint(c), c, n) != 0 {
				break
			}
			p, _ := factory.Round(c, n)
			if n > 0 && (!tree.Newer(c, p, ahead) || tree.Newer(c, ahead, p)) {
				t.Errorf("%v: the round %d is not newer", c, n)
			}
			ahead = p
		}
	}
}

// given is what New is given.
type given struct {
	what   string
	c      tree.Config
	who    int
	nobook bool
	outs   []tx.Out
}

// fault is what is wrong of something: the rank of its error among the call's, and what it changes, as two faults of one thing can't be at once.
type fault[T any] struct {
	what, thing string
	rank        int
	no          api.Errno
	do          func(x *T)
}

// faults are faults that are gathered.
type faults[T any] []fault[T]

func (l *faults[T]) add(rank int, no api.Errno, thing, what string, do func(x *T)) {
	*l = append(*l, fault[T]{what, thing, rank, no, do})
}

// each goes over all faults alone, and over all two at once, of which the one ahead is told.
func (l faults[T]) each(fresh func() T, try func(what string, x T, no api.Errno)) {
	for i, a := range l {
		x := fresh()
		a.do(&x)
		try(a.what, x, a.no)
		for _, b := range l[i+1:] {
			if a.thing == b.thing {
				continue
			}
			first := a
			if b.rank < a.rank {
				first = b
			}
			x := fresh()
			a.do(&x)
			b.do(&x)
			try(a.what+", "+b.what, x, first.no)
		}
	}
}

// treeFaults are trees that can't be, in the order of tree's errors.
func treeFaults(rank int) faults[given] {
	var l faults[given]
	for _, x := range []struct {
		no   api.Errno
		what string
		do   func(c *tree.Config)
	}{
		{api.ErrArg, "Depth 0", func(c *tree.Config) { c.Depth = 0 }},
		{api.ErrArg, "Depth 9", func(c *tree.Config) { c.Depth = 9 }},
		{api.ErrArg, "Step 0", func(c *tree.Config) { c.Step = 0 }},
		{api.ErrArg, "Last 0", func(c *tree.Config) { c.Last = 0 }},
		{api.ErrArg, "First below Last", func(c *tree.Config) { c.First = c.Last - 1 }},
		{api.ErrArg, "First MaxInt", func(c *tree.Config) { c.First = math.MaxInt }},
		{api.ErrArg, "257 heights", func(c *tree.Config) { c.First = c.Last + 256*c.Step }},
		{api.ErrArg, "Fee -1", func(c *tree.Config) { c.Fee = -1 }},
		{api.ErrArg, "Amount 9", func(c *tree.Config) { c.Amount = 9 }},
		{api.ErrParty, "no Keys", func(c *tree.Config) { c.Keys = nil }},
		{api.ErrParty, "one key", func(c *tree.Config) { c.Keys = []int{1} }},
		{api.ErrParty, "Keys that fall", func(c *tree.Config) { c.Keys = []int{1, 0, 2} }},
		{api.ErrParty, "a stranger's key", func(c *tree.Config) { c.Keys = []int{1, 16} }},
		{api.ErrDust, "a Room of 9", func(c *tree.Config) { c.Amount = 9 + c.Depth*c.Fee }},
	} {
		at := rank
		switch x.no {
		case api.ErrParty:
			at++
		case api.ErrDust:
			at += 2
		}
		l.add(at, x.no, "tree", x.what, func(g *given) { x.do(&g.c) })
	}
	return l
}

// outFaults are outputs that tree.Build refuses: those that are no Room together, and two ranks behind them, as the first transaction's point comes between, what tx.Check finds.
func outFaults[T any](rank int, outs func(x *T) *[]tx.Out) faults[T] {
	var l faults[T]
	for _, x := range []struct {
		no   api.Errno
		what string
		outs []tx.Out
	}{
		{api.ErrFunds, "no outputs", nil},
		{api.ErrFunds, "89", shares(30, 59)},
		{api.ErrFunds, "91", shares(30, 61)},
		{api.ErrFunds, "95", shares(30, 65)},
		{api.ErrFunds, "100", shares(30, 70)},
		{api.ErrFunds, "MaxInt", shares(math.MaxInt, math.MaxInt, 92)},
		{api.ErrRange, "65 outputs", append(slices.Repeat(shares(1), 64), out(26, []int{1}))},
		{api.ErrDust, "9", shares(9, 81)},
		{api.ErrDust, "below 0", shares(-10, 100)},
		{api.ErrOver, "above MaxAmount", shares(maxAmount+1, 89-maxAmount)},
		{api.ErrArg, "no branch", []tx.Out{{Amount: 90}}},
		{api.ErrArg, "no key", []tx.Out{out(90, []int{})}},
		{api.ErrArg, "keys that fall", []tx.Out{out(30, []int{0}), out(60, []int{2, 1})}},
	} {
		at := rank
		if x.no != api.ErrFunds {
			at += 2
		}
		l.add(at, x.no, "outs", x.what, func(y *T) { *outs(y) = cloneOuts(x.outs) })
	}
	return l
}

// newFaults are those of New, in its order.
func newFaults() faults[given] {
	var l faults[given]
	l.add(0, api.ErrArg, "book", "no book", func(g *given) { g.nobook = true })
	l = append(l, treeFaults(1)...)
	l = append(l, outFaults(4, func(g *given) *[]tx.Out { return &g.outs })...)
	l.add(5, api.ErrRange, "point", "N 64", func(g *given) { g.c.Point.N = 64 })
	for _, who := range []int{-1, 3, 4, 15, 16, math.MinInt, math.MaxInt} {
		l.add(7, api.ErrParty, "who", fmt.Sprint("who ", who), func(g *given) { g.who = who })
	}
	return l
}

// FA1: each error of New alone, and each two at once; nobody has signed anything then.
func TestNewFaults(t *testing.T) {
	fresh := func() given { return given{c: base(), who: 1, outs: shares(30, 20, 40)} }
	newFaults().each(fresh, func(what string, g given, no api.Errno) {
		b := oath.New()
		handed := b
		if g.nobook {
			handed = nil
		}
		m, err := factory.New(g.c, g.who, handed, g.outs)
		wantErr(t, what, err, no)
		if m != nil || b.Len() != 0 {
			t.Errorf("%s: a member, or a signature, beside an error", what)
		}
	})
}

// FA1: each error of Round of a tree that can't be, at all rounds; a round out of bounds is told ahead of them.
func TestRoundFaults(t *testing.T) {
	for _, f := range treeFaults(0) {
		g := given{c: base()}
		f.do(&g)
		for _, n := range []int{0, 1, 2, 35, 36, 2000} {
			_, err := factory.Round(g.c, n)
			wantErr(t, fmt.Sprint(f.what, ": Round of ", n), err, f.no)
			tryRound(t, f.what, g.c, n)
		}
		for _, n := range []int{-1, 2001, math.MinInt, math.MaxInt} {
			_, err := factory.Round(g.c, n)
			wantErr(t, fmt.Sprint(f.what, ": Round of ", n), err, api.ErrRange)
			tryRound(t, f.what, g.c, n)
		}
	}
}

// FA1: New signs all transactions of the round 0 and nothing else, the last one first, and for its own party alone.
func TestNewSigns(t *testing.T) {
	for depth := 1; depth <= 8; depth++ {
		c := base()
		c.Depth, c.Amount = depth, 90+5*depth
		b := oath.New()
		m, err := factory.New(c, 1, b, shares(30, 20, 40))
		wantErr(t, "New", err, 0)
		first, err := tree.Begin(c)
		wantErr(t, "Begin", err, 0)
		all, err := tree.Build(c, first, shares(30, 20, 40))
		wantErr(t, "Build", err, 0)
		var ids []api.Hash
		for _, x := range all {
			ids = append([]api.Hash{tx.ID(x)}, ids...)
		}
		if got := b.Sums(1); !slices.Equal(got, ids) || b.Len() != depth {
			t.Errorf("depth %d: %d signatures, it has signed %x, want %x", depth, b.Len(), got, ids)
		}
		want(t, "Last", m.Last(), nil, 0, 0)
	}
}

// FA1: each of a tree's parties may be a member, with much, with nothing, and with outputs that it can't spend alone.
func TestNewMembers(t *testing.T) {
	for _, keys := range [][]int{{0, 1}, {0, 15}, {3, 7, 9}, upTo(16)} {
		c := base()
		c.Keys = keys
		for _, outs := range [][]tx.Out{{out(90, keys[:1])}, {out(90, keys)}, {out(50, keys[:2]), out(40, keys[1:])}, {out(90, []int{11})}} {
			s := joined(t, fmt.Sprint(keys, outsText(outs)), c, outs)
			for _, m := range s.members {
				m.hear(factory.Msg{Kind: kindOffer, From: other(keys, m.who), Round: 1, Outs: outs})
			}
		}
	}
}

// other is one of some parties who is not that one.
func other(keys []int, who int) int {
	if keys[0] == who {
		return keys[1]
	}
	return keys[0]
}

// FA1: its least share is what it has in the round 0.
func TestNewLeast(t *testing.T) {
	for _, x := range []struct{ ahead, behind, kind int }{
		{30, 30, kindSigned}, {30, 31, kindSigned}, {30, 29, kindRefuse}, {30, 90, kindSigned}, {30, 0, kindRefuse}, {0, 0, kindSigned}, {0, 10, kindSigned}, {90, 90, kindSigned}, {90, 80, kindRefuse}, {10, 0, kindRefuse},
	} {
		m := newScene(t, fmt.Sprint(x), base()).join(0, shares(x.ahead, 90-x.ahead))
		told := m.hear(factory.Msg{Kind: kindOffer, From: 1, Round: 1, Outs: shares(x.behind, 90-x.behind)})
		if len(told) != 1 || told[0].Kind != x.kind {
			t.Errorf("%v: it tells %s", x, msgsText(told))
		}
	}
}
