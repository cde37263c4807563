package build_test

import (
	"fmt"
	"math"
	"reflect"
	"slices"
	"testing"

	"bayou/api"
	"bayou/build"
	"bayou/cond"
	"bayou/state"
	"bayou/tx"
)

// fault is what is wrong of what a call is given: the rank of its error among the call's, and what it changes, as two faults of one thing can't be at once.
type fault[T any] struct {
	what, thing string
	rank        int
	no          api.Errno
	do          func(c *T)
}

// faults are faults that are gathered.
type faults[T any] []fault[T]

func (l *faults[T]) add(rank int, no api.Errno, thing, what string, do func(c *T)) {
	*l = append(*l, fault[T]{what, thing, rank, no, do})
}

// numbers adds a fault for each of some numbers.
func (l *faults[T]) numbers(rank int, no api.Errno, thing string, at func(c *T) *int, numbers ...int) {
	for _, n := range numbers {
		l.add(rank, no, thing, fmt.Sprint(thing, " ", n), func(c *T) { *at(c) = n })
	}
}

// each goes over all faults alone, and over all two at once, of which the one ahead is told.
func (l faults[T]) each(try func(what string, no api.Errno, do ...func(c *T))) {
	for i, a := range l {
		try(a.what, a.no, a.do)
		for _, b := range l[i+1:] {
			if a.thing == b.thing {
				continue
			}
			first := a
			if b.rank < a.rank {
				first = b
			}
			try(a.what+" and "+b.what, first.no, a.do, b.do)
		}
	}
}

// checkFaults are those of Check, in its order.
func checkFaults() faults[scene] {
	var l faults[scene]
	l.numbers(0, api.ErrArg, "Number", func(c *scene) *int { return &c.s.Number }, -1, maxHeight+1)
	l.numbers(0, api.ErrArg, "side 0", func(c *scene) *int { return &c.s.Has[0] }, -1, maxAmount+1, math.MinInt, math.MaxInt)
	l.numbers(0, api.ErrArg, "side 1", func(c *scene) *int { return &c.s.Has[1] }, -1, maxAmount, maxAmount+1)
	l.numbers(0, api.ErrArg, "Delay", func(c *scene) *int { return &c.p.Delay }, 0, -1, maxDelay+1, math.MinInt, math.MaxInt)
	l.numbers(0, api.ErrArg, "Fee", func(c *scene) *int { return &c.p.Fee }, -1, maxAmount+1, math.MinInt, math.MaxInt)
	l.numbers(1, api.ErrParty, "Keys[0]", func(c *scene) *int { return &c.p.Keys[0] }, -1, parties, math.MinInt, math.MaxInt)
	l.numbers(1, api.ErrParty, "Keys[1]", func(c *scene) *int { return &c.p.Keys[1] }, -1, parties, math.MinInt, math.MaxInt)
	l.add(1, api.ErrParty, "both keys", "both keys the same", func(c *scene) { c.p.Keys[0] = c.p.Keys[1] })
	l.numbers(2, api.ErrFunds, "Amount", func(c *scene) *int { return &c.p.Amount }, 0, 109, 111, 199, 201, -200, maxAmount, math.MinInt, math.MaxInt)
	l.numbers(3, api.ErrFee, "Fee", func(c *scene) *int { return &c.p.Fee }, 51, 52, maxAmount)
	return l
}

// waitFaults are those of payments and holds.
func waitFaults() faults[scene] {
	var l faults[scene]
	bad := func(what string, do func(s *state.State)) {
		l.add(0, api.ErrArg, "what waits", what, func(c *scene) { do(&c.s) })
	}
	bad("a payment without a lock", func(s *state.State) { s.Pays[0].Lock = api.Hash{} })
	bad("a payment of 9", func(s *state.State) { s.Pays[1].Amount = 9 })
	bad("a payment from 2", func(s *state.State) { s.Pays[1].From = 2 })
	bad("payments that fall", func(s *state.State) { slices.Reverse(s.Pays) })
	bad("holds that fall", func(s *state.State) { slices.Reverse(s.Holds) })
	bad("a hold of no keys", func(s *state.State) { s.Holds[0].Keys = nil })
	bad("a hold of 9", func(s *state.State) { s.Holds[1].Amount = 9 })
	bad("a hold of a stranger", func(s *state.State) { s.Holds[1].Keys[0] = parties })
	bad("nine payments", func(s *state.State) { s.Pays, s.Holds = pays(9), nil })
	bad("nine holds", func(s *state.State) { s.Pays, s.Holds = nil, holds(9) })
	bad("nine of both", func(s *state.State) { s.Pays, s.Holds = pays(5), holds(4) })
	return l
}

// ownerFaults are those of an owner and a lock, behind all of Check's.
func ownerFaults() faults[scene] {
	var l faults[scene]
	l.numbers(4, api.ErrArg, "owner", func(c *scene) *int { return &c.owner }, -1, 2, math.MinInt, math.MaxInt)
	return l
}

// lockFaults are those of a lock, behind all of Check's.
func lockFaults() faults[scene] {
	var l faults[scene]
	l.add(4, api.ErrArg, "lock", "a lock of noughts", func(c *scene) { c.lock = api.Hash{} })
	return l
}

// pointFaults are those that tx.Check finds.
func pointFaults() faults[scene] {
	var l faults[scene]
	l.numbers(5, api.ErrRange, "N", func(c *scene) *int { return &c.p.Point.N }, -1, maxIO, math.MinInt, math.MaxInt)
	return l
}

// changed is a scene, changed; all calls of it are held against what they must answer, too.
func changed(t *testing.T, c scene, what string, do ...func(c *scene)) scene {
	t.Helper()
	c = c.clone()
	for _, f := range do {
		f(&c)
	}
	c.what += ": " + what
	c.try(t)
	return c
}

// BU1: Check: each error alone, and each two at once.
func TestCheckFaults(t *testing.T) {
	slices.Concat(checkFaults(), waitFaults()).each(func(what string, no api.Errno, do ...func(c *scene)) {
		c := changed(t, base(), what, do...)
		wantErr(t, c.what, build.Check(c.p, c.s), no)
	})
	checkFaults().each(func(what string, no api.Errno, do ...func(c *scene)) {
		c := changed(t, plainBase(), what, do...)
		wantErr(t, c.what, build.Check(c.p, c.s), no)
	})
}

// BU1: Check's bounds, told by hand; what is not of Check changes nothing.
func TestCheck(t *testing.T) {
	for _, x := range []struct {
		what string
		no   api.Errno
		do   func(c *scene)
	}{
		{"as it is", 0, func(c *scene) {}},
		{"Delay 0", api.ErrArg, func(c *scene) { c.p.Delay = 0 }},
		{"Delay 1", 0, func(c *scene) { c.p.Delay = 1 }},
		{"Delay 2^16", 0, func(c *scene) { c.p.Delay = 65536 }},
		{"Delay 2^16 + 1", api.ErrArg, func(c *scene) { c.p.Delay = 65537 }},
		{"Fee -1", api.ErrArg, func(c *scene) { c.p.Fee = -1 }},
		{"Fee 0", 0, func(c *scene) { c.p.Fee = 0 }},
		{"Fee 49", 0, func(c *scene) { c.p.Fee = 49 }},
		{"Fee of all that side 0 has", 0, func(c *scene) { c.p.Fee = 50 }},
		{"Fee of one more", api.ErrFee, func(c *scene) { c.p.Fee = 51 }},
		{"Fee of what side 1 has", api.ErrFee, func(c *scene) { c.p.Fee = 60 }},
		{"Fee MaxAmount", api.ErrFee, func(c *scene) { c.p.Fee = maxAmount }},
		{"Fee MaxAmount + 1", api.ErrArg, func(c *scene) { c.p.Fee = maxAmount + 1 }},
		{"Fee MaxAmount of MaxAmount", 0, func(c *scene) { *c = with("", state.State{Has: [2]int{maxAmount, 0}}, maxAmount) }},
		{"Fee MaxAmount of one less", api.ErrFee, func(c *scene) { *c = with("", state.State{Has: [2]int{maxAmount - 1, 1}}, maxAmount) }},
		{"Fee MaxAmount + 1 of MaxAmount", api.ErrArg, func(c *scene) { *c = with("", state.State{Has: [2]int{maxAmount, 0}}, maxAmount+1) }},
		{"nobody has any, no fee", 0, func(c *scene) { *c = with("", state.State{}, 0) }},
		{"nobody has any, a fee", api.ErrFee, func(c *scene) { *c = with("", state.State{}, 1) }},
		{"the last number", 0, func(c *scene) { c.s.Number = maxHeight }},
		{"the first and the last party", 0, func(c *scene) { c.p.Keys = [2]int{0, 15} }},
		{"the last and the first party", 0, func(c *scene) { c.p.Keys = [2]int{15, 0} }},
		{"keys 0 and 16", api.ErrParty, func(c *scene) { c.p.Keys = [2]int{0, 16} }},
		{"keys -1 and 0", api.ErrParty, func(c *scene) { c.p.Keys = [2]int{-1, 0} }},
		{"keys 0 and 0", api.ErrParty, func(c *scene) { c.p.Keys = [2]int{0, 0} }},
		{"keys 16 and 16", api.ErrParty, func(c *scene) { c.p.Keys = [2]int{16, 16} }},
		{"Amount 199", api.ErrFunds, func(c *scene) { c.p.Amount = 199 }},
		{"Amount 201", api.ErrFunds, func(c *scene) { c.p.Amount = 201 }},
		{"Amount of the sides alone", api.ErrFunds, func(c *scene) { c.p.Amount = 110 }},
		{"Amount less the fee", api.ErrFunds, func(c *scene) { c.p.Amount = 195 }},
		{"Amount 0 of a state that may not be", api.ErrArg, func(c *scene) { c.p.Amount, c.s.Number = 0, -1 }},
		{"a point that can't be", 0, func(c *scene) { c.p.Point.N = -1 }},
		{"an owner that is none", 0, func(c *scene) { c.owner = 2 }},
	} {
		c := base()
		x.do(&c)
		c.what = x.what
		c.try(t)
		wantErr(t, x.what, build.Check(c.p, c.s), x.no)
	}
}

// BU1: all pairs of keys.
func TestCheckKeys(t *testing.T) {
	for a := -2; a <= parties+1; a++ {
		for b := -2; b <= parties+1; b++ {
			c := base()
			c.p.Keys = [2]int{a, b}
			want := api.ErrParty
			if a != b && 0 <= a && a <= 15 && 0 <= b && b <= 15 {
				want = 0
			}
			c.what = fmt.Sprint("keys ", c.p.Keys)
			c.try(t)
			wantErr(t, c.what, build.Check(c.p, c.s), want)
		}
	}
}

// BU2: kinds are numbered as the given file has them.
func TestKinds(t *testing.T) {
	if got := [4]int{build.Own, build.Other, build.Paid, build.Held}; got != [4]int{1, 2, 3, 4} {
		t.Errorf("kinds: %v", got)
	}
}

// points are points that differ, so many.
func points(n int) []tx.Point {
	var l []tx.Point
	for i := range n {
		l = append(l, point(byte(i/maxIO+1), i%maxIO))
	}
	return l
}

// rests are outputs of Dust, so many.
func rests(n int) []tx.Out {
	var l []tx.Out
	for i := range n {
		l = append(l, tx.Out{Amount: dust, Cond: cond.All(i%parties, (i+1)%parties)})
	}
	return l
}

// BU1: Fund, word by word.
func TestFund(t *testing.T) {
	wait := out(12, cond.Branch{Keys: []int{1, 4}, Lock: api.Hash{8}, After: 9, Older: 10}, key(5))
	got, err := build.Fund([]tx.Point{point(5, 63), point(4, 0), point(5, 1)}, [2]int{9, 2}, 100, []tx.Out{wait, out(10, key(2))})
	wantText(t, "Fund", got, err,
		"lock 0",
		`in 05:63 by 0 ""`,
		`in 04:0 by 0 ""`,
		`in 05:1 by 0 ""`,
		"out 100 | [2 9]",
		"out 12 | [1 4] lock 08 after 9 older 10 | [5]",
		"out 10 | [2]")
	got, err = build.Fund([]tx.Point{{}}, [2]int{0, 15}, 10, nil)
	wantText(t, "Fund", got, err, "lock 0", `in :0 by 0 ""`, "out 10 | [0 15]")
	got, err = build.Fund([]tx.Point{{}}, [2]int{6, 6}, 10, []tx.Out{})
	wantText(t, "Fund of one key", got, err, "lock 0", `in :0 by 0 ""`, "out 10 | [6]")
}

// funding is what Fund is given.
type funding struct {
	points []tx.Point
	keys   [2]int
	amount int
	rest   []tx.Out
}

// try holds Fund against what it must answer: its error here, and all of it.
func (f funding) try(t *testing.T, what string, no api.Errno) {
	t.Helper()
	ahead := funding{slices.Clone(f.points), f.keys, f.amount, cloneOuts(f.rest)}
	got, err := build.Fund(f.points, f.keys, f.amount, f.rest)
	want, again := plainFund(t, f.points, f.keys, f.amount, f.rest)
	wantErr(t, what, err, no)
	wantTx(t, what, got, err, want, again)
	if !reflect.DeepEqual(f, ahead) {
		t.Errorf("%s: what was handed in was changed", what)
	}
}

// newFunding is what Fund lets by.
func newFunding() funding { return funding{points(3), [2]int{7, 3}, 100, rests(2)} }

// fundFaults are what tx.Check finds, in its order.
func fundFaults() faults[funding] {
	var l faults[funding]
	for _, n := range []int{0, 65, 66, 128} {
		l.add(0, api.ErrRange, "points", fmt.Sprint(n, " points"), func(f *funding) { f.points = points(n) })
	}
	for _, n := range []int{64, 65, 200} {
		l.add(0, api.ErrRange, "rest", fmt.Sprint("a rest of ", n), func(f *funding) { f.rest = rests(n) })
	}
	l.numbers(1, api.ErrRange, "points", func(f *funding) *int { return &f.points[1].N }, -1, maxIO, math.MaxInt)
	l.add(2, api.ErrTwice, "points", "a point twice", func(f *funding) { f.points[2] = f.points[0] })
	l.numbers(3, api.ErrDust, "amount", func(f *funding) *int { return &f.amount }, 9, 0, -1, math.MinInt)
	l.numbers(3, api.ErrOver, "amount", func(f *funding) *int { return &f.amount }, maxAmount+1, math.MaxInt)
	l.numbers(4, api.ErrArg, "keys", func(f *funding) *int { return &f.keys[0] }, -1, parties)
	l.numbers(4, api.ErrArg, "keys", func(f *funding) *int { return &f.keys[1] }, -1, parties)
	l.add(4, api.ErrArg, "keys", "one stranger twice", func(f *funding) { f.keys = [2]int{16, 16} })
	l.numbers(5, api.ErrDust, "rest", func(f *funding) *int { return &f.rest[0].Amount }, 9, -1)
	l.numbers(5, api.ErrOver, "rest", func(f *funding) *int { return &f.rest[0].Amount }, maxAmount+1)
	l.add(5, api.ErrArg, "rest", "a condition that can't be", func(f *funding) { f.rest[0].Cond = cond.All() })
	l.numbers(6, api.ErrOver, "rest", func(f *funding) *int { return &f.rest[1].Amount }, maxAmount, maxAmount-109)
	return l
}

// BU1: Fund: tx.Check's errors, each alone and each two at once.
func TestFundFaults(t *testing.T) {
	newFunding().try(t, "as it is", 0)
	fundFaults().each(func(what string, no api.Errno, do ...func(f *funding)) {
		f := newFunding()
		for _, x := range do {
			x(&f)
		}
		f.try(t, what, no)
	})
}

// BU1: Fund at its bounds: as many points and outputs as may be, and the amounts at theirs.
func TestFundBounds(t *testing.T) {
	for _, n := range []int{1, 2, 63, 64} {
		for _, m := range []int{0, 1, 62, 63} {
			for _, amount := range []int{dust, dust + 1, 1000, maxAmount - dust*m} {
				funding{points(n), [2]int{3, 4}, amount, rests(m)}.try(t, fmt.Sprintf("%d points, a rest of %d, %d", n, m, amount), 0)
			}
			if m > 0 {
				funding{points(n), [2]int{3, 4}, maxAmount - dust*m + 1, rests(m)}.try(t, "one too much", api.ErrOver)
			}
		}
	}
}

// BU2: the chapter's example.
func TestExample(t *testing.T) {
	p := build.Params{Amount: 100, Keys: [2]int{1, 2}, Delay: 3, Fee: 5}
	s := state.State{Has: [2]int{50, 50}}
	got, err := build.Commit(p, s, 1, api.Hash{1})
	wantText(t, "Commit of side 1", got, err, "lock 0", `in :0 by 0 ""`, "out 50 | [2] older 3 | [1] lock 01", "out 45 | [1]")
	got, err = build.Commit(p, s, 0, api.Hash{1})
	wantText(t, "Commit of side 0", got, err, "lock 0", `in :0 by 0 ""`, "out 45 | [1] older 3 | [2] lock 01", "out 50 | [2]")
	got, err = build.Close(p, s)
	wantText(t, "Close", got, err, "lock 0", `in :0 by 0 ""`, "out 45 | [1]", "out 50 | [2]")
}

// BU2: Commit and Places of both owners, word by word.
func TestCommit(t *testing.T) {
	c := base()
	got, err := build.Commit(c.p, c.s, 0, c.lock)
	wantText(t, "Commit of side 0", got, err,
		"lock 0",
		`in 09:3 by 0 ""`,
		"out 45 | [7] older 5 | [3] lock ee",
		"out 60 | [3]",
		"out 20 | [3] lock 01 | [7] after 100 older 5 | [3] lock ee",
		"out 30 | [7] lock 02 older 5 | [3] | [3] lock ee",
		"out 15 | [3 7 9]",
		"out 25 | [0]")
	got, err = build.Commit(c.p, c.s, 1, c.lock)
	wantText(t, "Commit of side 1", got, err,
		"lock 0",
		`in 09:3 by 0 ""`,
		"out 60 | [3] older 5 | [7] lock ee",
		"out 45 | [7]",
		"out 20 | [3] lock 01 older 5 | [7] after 100 | [7] lock ee",
		"out 30 | [7] lock 02 | [3] older 5 | [7] lock ee",
		"out 15 | [3 7 9]",
		"out 25 | [0]")
	for owner := range 2 {
		places, err := build.Places(c.p, c.s, owner)
		wantErr(t, "Places", err, 0)
		want := []build.Place{{Kind: build.Own}, {Kind: build.Other}, {Kind: build.Paid, ID: 2}, {Kind: build.Paid, ID: 5}, {Kind: build.Held, ID: 1}, {Kind: build.Held, ID: 4}}
		if !slices.Equal(places, want) {
			t.Errorf("Places: %v, want %v", places, want)
		}
	}
}

// BU2: a payment's After and Delay at their bounds, whoever it is from and whose the commitment is.
func TestCommitBounds(t *testing.T) {
	for _, after := range []int{0, 1, maxHeight} {
		for _, delay := range []int{1, 2, maxDelay} {
			for from := range 2 {
				for owner := range 2 {
					c := base()
					c.s.Pays[0].After, c.s.Pays[0].From, c.s.Number = after, from, maxHeight
					c.p.Delay, c.owner = delay, owner
					c.what = fmt.Sprint("after ", after, " delay ", delay, " from ", from, " owner ", owner)
					c.try(t)
					got, err := build.Commit(c.p, c.s, owner, c.lock)
					wantErr(t, c.what, err, 0)
					by := got.Outs[2].Cond.Branches
					older := [3]int{by[0].Older, by[1].Older, by[2].Older}
					want := [3]int{0, delay, 0}
					if from != owner {
						want = [3]int{delay, 0, 0}
					}
					if older != want || by[0].After != 0 || by[1].After != after || by[2].After != 0 {
						t.Errorf("%s: %s", c.what, told(got))
					}
				}
			}
		}
	}
}

// BU2: sides around Dust: which outputs there are, told by hand.
func TestCommitDust(t *testing.T) {
	for _, x := range []struct {
		zero, one, fee int
		owner          int
		places         string
		amounts        string
	}{
		{15, 10, 5, 0, "[{1 0} {2 0}]", "[10 10]"},
		{15, 10, 5, 1, "[{1 0} {2 0}]", "[10 10]"},
		{16, 11, 5, 0, "[{1 0} {2 0}]", "[11 11]"},
		{14, 10, 5, 0, "[{2 0}]", "[10]"},
		{14, 10, 5, 1, "[{1 0}]", "[10]"},
		{15, 9, 5, 0, "[{1 0}]", "[10]"},
		{15, 9, 5, 1, "[{2 0}]", "[10]"},
		{10, 10, 0, 0, "[{1 0} {2 0}]", "[10 10]"},
		{9, 10, 0, 0, "[{2 0}]", "[10]"},
		{10, 9, 0, 1, "[{2 0}]", "[10]"},
		{10, 10, 10, 1, "[{1 0}]", "[10]"},
		{10, 14, 1, 0, "[{2 0}]", "[14]"},
		{maxAmount, 0, 0, 0, "[{1 0}]", "[1125899906842624]"},
		{maxAmount, 0, maxAmount - 10, 1, "[{2 0}]", "[10]"},
		{0, maxAmount, 0, 1, "[{1 0}]", "[1125899906842624]"},
		{14, 9, 5, 0, "[]", ""},
		{14, 9, 5, 1, "[]", ""},
		{0, 0, 0, 0, "[]", ""},
		{maxAmount, 0, maxAmount, 0, "[]", ""},
	} {
		c := with(fmt.Sprint(x), state.State{Has: [2]int{x.zero, x.one}}, x.fee)
		c.owner = x.owner
		c.try(t)
		places, err := build.Places(c.p, c.s, c.owner)
		wantErr(t, c.what+": Places", err, 0)
		if got := fmt.Sprint(places); got != x.places {
			t.Errorf("%s: Places: %s, want %s", c.what, got, x.places)
		}
		got, err := build.Commit(c.p, c.s, c.owner, c.lock)
		if x.amounts == "" {
			wantTx(t, c.what+": Commit", got, err, tx.Tx{}, api.ErrRange) // no outputs
			continue
		}
		wantErr(t, c.what+": Commit", err, 0)
		var amounts []int
		for _, o := range got.Outs {
			amounts = append(amounts, o.Amount)
		}
		if text := fmt.Sprint(amounts); text != x.amounts {
			t.Errorf("%s: Commit: %s, want %s", c.what, text, x.amounts)
		}
	}
}

// BU1 to BU4: scenes of all kinds, held against the plain rules.
func TestGood(t *testing.T) {
	for _, c := range good() {
		c.try(t)
		wantErr(t, c.what, build.Check(c.p, c.s), 0)
	}
}

// BU2: Commit and Places: each error alone, and each two at once: Check's ahead of an owner that is none, and of a lock of noughts.
func TestCommitFaults(t *testing.T) {
	for owner := range 2 {
		of := base()
		of.owner = owner
		slices.Concat(checkFaults(), waitFaults(), ownerFaults(), lockFaults(), pointFaults()).each(func(what string, no api.Errno, do ...func(c *scene)) {
			c := changed(t, of, what, do...)
			got, err := build.Commit(c.p, c.s, c.owner, c.lock)
			wantTx(t, c.what, got, err, tx.Tx{}, no)
		})
		slices.Concat(checkFaults(), waitFaults(), ownerFaults()).each(func(what string, no api.Errno, do ...func(c *scene)) {
			c := changed(t, of, what, do...)
			got, err := build.Places(c.p, c.s, c.owner)
			wantErr(t, c.what, err, no)
			if len(got) > 0 {
				t.Errorf("%s: %v beside an error", c.what, got)
			}
		})
	}
}

// BU2: what is no error of Places, as it asks for no lock and builds nothing.
func TestPlacesAlone(t *testing.T) {
	want, _ := build.Places(base().p, base().s, 0)
	for _, f := range slices.Concat(lockFaults(), pointFaults()) {
		c := base()
		f.do(&c)
		got, err := build.Places(c.p, c.s, c.owner)
		wantErr(t, f.what, err, 0)
		if len(want) != 6 || !slices.Equal(got, want) {
			t.Errorf("%s: %v, want %v", f.what, got, want)
		}
	}
}

// BU2: each lock but noughts is let by.
func TestCommitLock(t *testing.T) {
	for k := range 256 {
		c := base()
		c.lock = api.Hash{}
		c.lock[k/8] = 1 << (k % 8)
		c.what = fmt.Sprint("a lock of the bit ", k)
		c.try(t)
		_, err := build.Commit(c.p, c.s, c.owner, c.lock)
		wantErr(t, c.what, err, 0)
	}
}

// BU3: Penalty, word by word.
func TestPenalty(t *testing.T) {
	c := base()
	for owner, who := range []int{3, 7} {
		x, err := build.Commit(c.p, c.s, owner, cond.Lock(c.secret))
		wantErr(t, "Commit", err, 0)
		id := sumText(tx.ID(x))
		got, err := build.Penalty(c.p, c.s, owner, c.secret)
		wantText(t, fmt.Sprint("Penalty of ", owner), got, err,
			"lock 0",
			"in "+id+`:0 by 1 "s"`,
			"in "+id+`:1 by 0 ""`,
			"in "+id+`:2 by 2 "s"`,
			"in "+id+`:3 by 2 "s"`,
			fmt.Sprintf("out 150 | [%d]", who)) // 45, 60, 20 and 30, less 5
	}
}

// BU3: Penalty of what has some kinds of outputs alone, and of what has none that can be taken.
func TestPenaltyKinds(t *testing.T) {
	one := []state.Pay{pay(8, 1, 40)}
	held := []state.Hold{hold(8, 40, 1, 2)}
	for _, x := range []struct {
		what   string
		s      state.State
		fee    int
		owner  int
		no     api.Errno
		ins    string
		amount int
	}{
		{"Own alone", state.State{Has: [2]int{50, 0}}, 5, 0, 0, "[0.1.1]", 40},
		{"Own alone of side 1", state.State{Has: [2]int{5, 50}}, 5, 1, 0, "[0.1.1]", 45},
		{"Other alone", state.State{Has: [2]int{5, 50}}, 5, 0, 0, "[0.0.0]", 45},
		{"Other alone of side 1", state.State{Has: [2]int{50, 9}}, 5, 1, 0, "[0.0.0]", 40},
		{"Paid alone", state.State{Has: [2]int{5, 0}, Pays: one}, 5, 0, 0, "[0.2.1]", 35},
		{"Paid alone of side 1", state.State{Has: [2]int{5, 0}, Pays: one}, 5, 1, 0, "[0.2.1]", 35},
		{"Own and Held", state.State{Has: [2]int{50, 0}, Holds: held}, 5, 0, 0, "[0.1.1]", 40},
		{"Other, Paid and Held", state.State{Has: [2]int{5, 30}, Pays: one, Holds: held}, 5, 0, 0, "[0.0.0 1.2.1]", 65},
		{"Paid and Held", state.State{Pays: one, Holds: held}, 0, 1, 0, "[0.2.1]", 40},
		{"eight Paid", state.State{Pays: pays(8)}, 0, 1, 0, "[0.2.1 1.2.1 2.2.1 3.2.1 4.2.1 5.2.1 6.2.1 7.2.1]", 108},
		{"Held alone", state.State{Holds: held}, 0, 0, api.ErrArg, "", 0},
		{"Held alone of side 1", state.State{Holds: held}, 0, 1, api.ErrArg, "", 0},
		{"Held, and sides that are too small", state.State{Has: [2]int{14, 9}, Holds: held}, 5, 1, api.ErrArg, "", 0},
		{"eight Held", state.State{Holds: holds(8)}, 0, 0, api.ErrArg, "", 0},
		{"no outputs at all", state.State{Has: [2]int{14, 9}}, 5, 0, api.ErrRange, "", 0},
		{"Dust behind the fee", state.State{Has: [2]int{15, 25}}, 15, 1, 0, "[0.1.1]", 10},
		{"one less", state.State{Has: [2]int{15, 24}}, 15, 1, api.ErrDust, "", 0},
		{"nothing behind the fee", state.State{Has: [2]int{15, 15}}, 15, 1, api.ErrDust, "", 0},
		{"less than the fee", state.State{Has: [2]int{15, 14}}, 15, 1, api.ErrDust, "", 0},
		{"all there may be", state.State{Has: [2]int{maxAmount - 20, 20}}, 0, 0, 0, "[0.1.1 1.0.0]", maxAmount},
	} {
		c := with(x.what, x.s, x.fee)
		c.owner = x.owner
		c.try(t)
		got, err := build.Penalty(c.p, c.s, c.owner, c.secret)
		wantErr(t, x.what, err, x.no)
		if x.no != 0 {
			wantTx(t, x.what, got, err, tx.Tx{}, x.no)
			continue
		}
		var ins []string
		for _, in := range got.Ins {
			ins = append(ins, fmt.Sprintf("%d.%d.%d", in.Point.N, in.Branch, len(in.Secret)))
		}
		if fmt.Sprint(ins) != x.ins || len(got.Outs) != 1 || got.Outs[0].Amount != x.amount || !cond.Same(got.Outs[0].Cond, cond.All(c.p.Keys[1-x.owner])) {
			t.Errorf("%s: %s", x.what, told(got))
		}
	}
}

// BU3: Penalty's errors, alone and in pairs: Commit's, but a lock of noughts, and those of a secret that is too long.
func TestPenaltyFaults(t *testing.T) {
	l := slices.Concat(checkFaults(), waitFaults(), ownerFaults(), pointFaults())
	for _, n := range []int{65, 66, 1 << 16} {
		l.add(6, api.ErrRange, "secret", fmt.Sprint("a secret of ", n), func(c *scene) { c.secret = make([]byte, n) })
	}
	for owner := range 2 {
		of := base()
		of.owner = owner
		l.each(func(what string, no api.Errno, do ...func(c *scene)) {
			c := changed(t, of, what, do...)
			got, err := build.Penalty(c.p, c.s, c.owner, c.secret)
			wantTx(t, c.what, got, err, tx.Tx{}, no)
		})
	}
}

// BU3: secrets of Penalty: none, the longest, and one that is too long, which Other alone does not show.
func TestPenaltySecret(t *testing.T) {
	for _, x := range []struct {
		length int
		no     api.Errno
	}{{0, 0}, {1, 0}, {32, 0}, {63, 0}, {64, 0}, {65, api.ErrRange}, {5000, api.ErrRange}} {
		for owner := range 2 {
			c := base()
			c.owner, c.secret = owner, slices.Repeat([]byte{0xab}, x.length)
			c.what = fmt.Sprint("a secret of ", x.length)
			c.try(t)
			got, err := build.Penalty(c.p, c.s, owner, c.secret)
			wantErr(t, c.what, err, x.no)
			if err == nil && (string(got.Ins[0].Secret) != string(c.secret) || len(got.Ins[1].Secret) != 0) {
				t.Errorf("%s: %s", c.what, told(got))
			}
		}
		c := with("Other alone", state.State{Has: [2]int{5, 50}}, 5)
		c.secret = make([]byte, x.length)
		c.try(t)
		_, err := build.Penalty(c.p, c.s, 0, c.secret)
		wantErr(t, c.what, err, 0)
	}
	a, _ := build.Penalty(base().p, base().s, 0, nil)
	b, _ := build.Penalty(base().p, base().s, 0, []byte{})
	wantTx(t, "a nil secret", a, nil, b, 0)
}

// closeFaults are those of what waits, which Close does not pay out; the amount stays.
func closeFaults() faults[scene] {
	var l faults[scene]
	wait := func(thing string, do func(s *state.State)) {
		l.add(4, api.ErrState, thing, thing, func(c *scene) { do(&c.s) })
	}
	wait("a payment", func(s *state.State) { s.Has[1] -= 20; s.Pays = []state.Pay{pay(1, 0, 20)} })
	wait("a hold", func(s *state.State) { s.Has[1] -= 20; s.Holds = []state.Hold{hold(1, 20, 4)} })
	return l
}

// BU3: Close's errors, alone and in pairs.
func TestCloseFaults(t *testing.T) {
	slices.Concat(checkFaults(), closeFaults(), pointFaults()).each(func(what string, no api.Errno, do ...func(c *scene)) {
		c := changed(t, plainBase(), what, do...)
		got, err := build.Close(c.p, c.s)
		wantTx(t, c.what, got, err, tx.Tx{}, no)
	})
	c := base()
	got, err := build.Close(c.p, c.s)
	wantTx(t, "payments and holds", got, err, tx.Tx{}, api.ErrState)
}

// BU3: Close of sides around Dust, told by hand.
func TestClose(t *testing.T) {
	for _, x := range []struct {
		zero, one, fee int
		want           []string
	}{
		{50, 60, 5, []string{"out 45 | [7]", "out 60 | [3]"}},
		{50, 60, 0, []string{"out 50 | [7]", "out 60 | [3]"}},
		{15, 10, 5, []string{"out 10 | [7]", "out 10 | [3]"}},
		{14, 10, 5, []string{"out 10 | [3]"}},
		{15, 9, 5, []string{"out 10 | [7]"}},
		{10, 9, 0, []string{"out 10 | [7]"}},
		{50, 60, 50, []string{"out 60 | [3]"}},
		{50, 60, 41, []string{"out 60 | [3]"}},
		{50, 60, 40, []string{"out 10 | [7]", "out 60 | [3]"}},
		{maxAmount, 0, 0, []string{"out 1125899906842624 | [7]"}},
		{0, maxAmount, 0, []string{"out 1125899906842624 | [3]"}},
		{maxAmount - 10, 10, maxAmount - 20, []string{"out 10 | [7]", "out 10 | [3]"}},
		{14, 9, 5, nil},
		{9, 9, 0, nil},
		{0, 0, 0, nil},
		{maxAmount, 0, maxAmount, nil},
	} {
		c := with(fmt.Sprint(x), state.State{Has: [2]int{x.zero, x.one}, Number: 3}, x.fee)
		c.try(t)
		got, err := build.Close(c.p, c.s)
		if x.want == nil {
			wantTx(t, c.what, got, err, tx.Tx{}, api.ErrRange) // no outputs
			continue
		}
		wantText(t, c.what, got, err, append([]string{"lock 0", `in 09:3 by 0 ""`}, x.want...)...)
	}
}

// Rule 3: nil and the empty list are the same.
func TestEmpty(t *testing.T) {
	a, b := plainBase(), plainBase()
	b.s.Pays, b.s.Holds = []state.Pay{}, []state.Hold{}
	for owner := range 2 {
		b.owner = owner
		b.try(t)
		x, err := build.Commit(a.p, a.s, owner, a.lock)
		y, no := build.Commit(b.p, b.s, owner, b.lock)
		wantErr(t, "nil", err, 0)
		wantTx(t, "empty", y, no, x, 0)
	}
}

// Rule 4: what was asked ahead changes nothing.
func TestAskedAgain(t *testing.T) {
	for range 3 {
		base().try(t)
		plainBase().try(t)
		newFunding().try(t, "Fund", 0)
		newClaim().try(t, "Claim", 0)
	}
}

// FuzzScene: all calls of a channel, of numbers and a list of what waits.
func FuzzScene(f *testing.F) {
	f.Add(50, 60, 5, 5, 7, 3, 0, 0, 3, []byte("s"), []byte{2, 0, 20, 5, 130, 30})
	f.Add(14, 9, 5, 1, 0, 15, 1, 0, 63, []byte{}, []byte{1, 129, 0})
	f.Add(maxAmount, 0, maxAmount, maxDelay, 15, 0, 0, 0, 0, make([]byte, 64), []byte{})
	f.Add(9, 10, 0, 65537, 4, 4, 2, -1, 64, make([]byte, 65), []byte{1, 2, 3, 1, 2, 3})
	f.Fuzz(func(t *testing.T, zero, one, fee, delay, first, second, owner, off, n int, secret, wait []byte) {
		c := base()
		c.what = fmt.Sprint(zero, " ", one, " ", fee, " ", delay, " ", first, " ", second, " ", owner, " ", off, " ", n, " ", secret, " ", wait)
		c.s = state.State{Has: [2]int{zero, one}}
		for i := 0; i+2 < len(wait) && i < 30; i += 3 {
			amount := dust + int(wait[i+2]) - 1 + i%2
			if wait[i+1] < 128 {
				c.s.Pays = append(c.s.Pays, pay(int(wait[i])+i*99, int(wait[i+1]%16%3), amount))
			} else {
				c.s.Holds = append(c.s.Holds, hold(int(wait[i])+i*99, amount, upTo(int(wait[i+1]%18))...))
			}
		}
		c.p = build.Params{Point: point(1, n), Amount: state.Total(c.s) + off, Keys: [2]int{first, second}, Delay: delay, Fee: fee}
		c.owner, c.secret = owner, secret
		copy(c.lock[:], secret)
		c.try(t)
	})
}
