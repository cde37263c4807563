package splice_test

import (
	"fmt"
	"math"
	"slices"
	"testing"

	"bayou/api"
	"bayou/build"
	"bayou/cond"
	"bayou/splice"
	"bayou/state"
	"bayou/tx"
)

// sides are numbers of sides, and others.
func sides() []int { return []int{0, 1, -1, 2, 3, 1 << 32, math.MinInt, math.MaxInt} }

// sideFaults are those of a side: who is none, and who is ready.
func sideFaults() faults {
	var l faults
	l.numbers(0, api.ErrParty, "side", func(s *scene) *int { return &s.side }, sides()[2:]...)
	l.add(1, api.ErrState, "Ready", "a side that is ready", func(s *scene) { s.d.Ready = [2]bool{s.side != 1, s.side == 1} })
	l.add(1, api.ErrState, "Ready", "both are ready", func(s *scene) { s.d.Ready = [2]bool{true, true} })
	return l
}

// baseOf is the base for a side, of which the other one is ready or not.
func baseOf(side int, ready bool) func() scene {
	return func() scene {
		s := base()
		s.what, s.side = fmt.Sprintf("side %d, the other one ready: %v", side, ready), side
		s.d.Ready[1-side] = ready
		return s
	}
}

// eachBase has a test done for both sides, whether the other one is ready or not.
func eachBase(do func(fresh func() scene)) {
	for side := range 2 {
		do(baseOf(side, false))
		do(baseOf(side, true))
	}
}

// checkFaults are those of build.Check, in its order, from a rank on.
func checkFaults(rank int) faults {
	var l faults
	l.numbers(rank, api.ErrArg, "Number", func(s *scene) *int { return &s.d.State.Number }, -1, maxHeight+1, math.MinInt)
	l.numbers(rank, api.ErrArg, "Has", func(s *scene) *int { return &s.d.State.Has[0] }, -1, maxAmount+1, maxAmount, math.MinInt)
	l.numbers(rank, api.ErrArg, "Has", func(s *scene) *int { return &s.d.State.Has[1] }, -1, maxAmount+1, maxAmount-1, math.MaxInt)
	l.add(rank, api.ErrArg, "Pays", "a payment below Dust", func(s *scene) { s.d.State.Pays[0].Amount = dust - 1 })
	l.add(rank, api.ErrArg, "Pays", "a payment without a lock", func(s *scene) { s.d.State.Pays[1].Lock = api.Hash{} })
	l.add(rank, api.ErrArg, "Pays", "more than MaxSlots", func(s *scene) {
		for i := range 7 {
			s.d.State.Pays = append(s.d.State.Pays, pay(10+i, 0, 10))
		}
	})
	l.add(rank, api.ErrArg, "Holds", "a hold without keys", func(s *scene) { s.d.State.Holds[1].Keys = nil })
	l.add(rank, api.ErrArg, "Holds", "holds that fall", func(s *scene) { slices.Reverse(s.d.State.Holds) })
	l.numbers(rank, api.ErrArg, "Delay", func(s *scene) *int { return &s.d.Params.Delay }, 0, -1, maxDelay+1, math.MinInt, math.MaxInt)
	l.numbers(rank, api.ErrArg, "Fee", func(s *scene) *int { return &s.d.Params.Fee }, -1, maxAmount+1, math.MinInt, math.MaxInt)
	for _, keys := range [][2]int{{-1, 3}, {7, -1}, {16, 3}, {7, 16}, {7, 7}, {0, 0}, {math.MinInt, 3}, {7, math.MaxInt}} {
		l.add(rank+1, api.ErrParty, "Keys", fmt.Sprint("Keys ", keys), func(s *scene) { s.d.Params.Keys = keys })
	}
	l.numbers(rank+2, api.ErrFunds, "Amount", func(s *scene) *int { return &s.d.Params.Amount }, 199, 201, 0, -1, -200, 150, maxAmount, math.MinInt, math.MaxInt)
	l.numbers(rank+3, api.ErrFee, "Fee", func(s *scene) *int { return &s.d.Params.Fee }, 51, 60, 200, maxAmount)
	l.add(rank+3, api.ErrFee, "Has", "side 0 has less than Fee", func(s *scene) { s.d.State.Has = [2]int{4, 106} })
	return l
}

// SP1: each error of New, which is build.Check's, alone and each two at once.
func TestNewFaults(t *testing.T) {
	checkFaults(0).each(t, base, func(s scene, no api.Errno) {
		_, err := splice.New(s.d.Params, s.d.State)
		wantErr(t, s.what, err, no)
	})
}

// SP1: New lets by what build.Check does: in the deal nobody brings or takes anything, and nobody is ready.
func TestNew(t *testing.T) {
	for _, x := range []struct {
		what string
		s    state.State
		do   func(p *build.Params)
	}{
		{"all kinds", full(), func(p *build.Params) {}},
		{"the example", state.State{Has: [2]int{50, 50}}, func(p *build.Params) { *p = build.Params{Amount: 100, Keys: [2]int{1, 2}, Delay: 3, Fee: 5} }},
		{"nothing at all", state.State{}, func(p *build.Params) { p.Fee = 0 }},
		{"all of it is the fee", state.State{Has: [2]int{5, 0}}, func(p *build.Params) {}},
		{"MaxAmount", state.State{Has: [2]int{maxAmount, 0}}, func(p *build.Params) { p.Fee = maxAmount }},
		{"the last number", state.State{Number: maxHeight, Has: [2]int{5, 6}}, func(p *build.Params) {}},
		{"the least numbers", state.State{Has: [2]int{1, 0}}, func(p *build.Params) { p.Fee, p.Delay, p.Keys = 0, 1, [2]int{0, 1} }},
		{"the greatest ones", state.State{Has: [2]int{5, 0}}, func(p *build.Params) { p.Delay, p.Keys = maxDelay, [2]int{15, 14} }},
		{"a point that can't be", full(), func(p *build.Params) { p.Point.N = -1 }},
		{"another one", full(), func(p *build.Params) { p.Point = tx.Point{N: math.MaxInt} }},
	} {
		p := params(x.s, 5)
		x.do(&p)
		for range 2 {
			d, err := splice.New(p, cloneState(x.s))
			want(t, x.what, d, err, splice.Deal{Params: p, State: x.s}, 0)
			for side := range 2 {
				if len(d.Ins[side]) != 0 || len(d.Outs[side]) != 0 || d.Ready[side] {
					t.Errorf("%s: the side %d: %v", x.what, side, d)
				}
			}
		}
	}
}

// SP1: each error of Bring alone, and each two at once.
func TestBringFaults(t *testing.T) {
	l := sideFaults()
	for _, n := range []int{30, 31, 32, 64, 100, 256} {
		l.add(2, api.ErrSlot, "coins", fmt.Sprint(n, " coins"), func(s *scene) {
			if s.side == 0 || s.side == 1 {
				s.d.Ins[s.side] = append(coins(20, many(n-len(s.d.Ins[s.side]), 10)...), s.d.Ins[s.side]...)
			}
		})
	}
	l.add(3, api.ErrTwice, "Point", "the channel's own point", func(s *scene) { s.c.Point = s.d.Params.Point })
	for side, n := range []int{2, 1} {
		for i := range n {
			l.add(3, api.ErrTwice, "Point", fmt.Sprint("the coin ", i, " of ", side), func(s *scene) { s.c.Point = base().d.Ins[side][i].Point })
		}
	}
	l.numbers(4, api.ErrDust, "Amount", func(s *scene) *int { return &s.c.Amount }, 9, 1, 0, -1, -10, -maxAmount, math.MinInt)
	l.numbers(5, api.ErrOver, "Amount", func(s *scene) *int { return &s.c.Amount }, maxAmount+1, maxAmount+10, 1<<62, math.MaxInt)
	eachBase(func(fresh func() scene) {
		l.each(t, fresh, func(s scene, no api.Errno) {
			_, err := splice.Bring(s.d, s.side, s.c)
			wantErr(t, s.what, err, no)
		})
	})
}

// SP1: what Bring lets by: any other point, also one that can't be, and the bounds of an amount; the coin stands behind the side's others.
func TestBring(t *testing.T) {
	eachBase(func(fresh func() scene) {
		for _, p := range []tx.Point{point(4, 2), point(9, 4), point(9, 2), point(8, 3), point(1, 1), point(2, 0), point(3, 63), {}, {N: 3}, {Tx: api.Hash{31: 1}}, point(7, -1), point(7, 64), point(7, math.MaxInt), point(1, 1<<32), point(1, math.MinInt)} {
			for _, n := range []int{dust, dust + 1, 25, maxAmount - 1, maxAmount} {
				s := fresh()
				s.c = splice.Coin{Point: p, Amount: n}
				s.what = fmt.Sprint(s.what, ": ", p, " of ", n)
				s.try(t)
				wanted := fresh().d
				wanted.Ins[s.side] = append(wanted.Ins[s.side], s.c)
				d, err := splice.Bring(s.d, s.side, s.c)
				want(t, s.what, d, err, wanted, 0)
			}
		}
	})
}

// SP1: a side brings 30 coins, and the other one as many; the 31st of each is one too many.
func TestBringMany(t *testing.T) {
	s := scene{d: splice.Deal{Params: params(full(), 5), State: full()}, o: out(10, []int{0})}
	for _, side := range []int{1, 0} {
		s.side = side
		for i := range 33 {
			s.what, s.c = fmt.Sprint("side ", side, ", coin ", i), coin(byte(30+side), i, 10+i)
			s.try(t)
			d, err := splice.Bring(s.d, side, s.c)
			if i >= most {
				wantErr(t, s.what, err, api.ErrSlot)
				continue
			}
			wantErr(t, s.what, err, 0)
			s.d = d
			if l := s.d.Ins[side]; len(l) != i+1 || l[i] != s.c || l[0] != coin(byte(30+side), 0, 10) {
				t.Errorf("%s: %v", s.what, l)
			}
			again, err := splice.Bring(s.d, 1-side, s.c)
			wantErr(t, s.what+" by the other side, too", err, []api.Errno{api.ErrSlot, api.ErrTwice}[side])
			want(t, s.what, again, nil, splice.Deal{}, 0)
		}
	}
}

// outFaults are those of an output that can't be: tx.Check's errors.
func outFaults(rank int) faults {
	var l faults
	bad := func(no api.Errno, all ...tx.Out) {
		for i, o := range all {
			l.add(rank, no, "output", fmt.Sprint("the output ", i, " of the error ", int(no)), func(s *scene) { s.o = cloneOut(o) })
		}
	}
	branch := func(b cond.Branch) tx.Out { return tx.Out{Amount: 20, Cond: cond.Cond{Branches: []cond.Branch{b}}} }
	bad(api.ErrDust, tx.Out{}, out(9, []int{1}), out(0, []int{1}), out(-1, []int{1}), out(math.MinInt, []int{1}), out(9), out(9, []int{16}), out(-maxAmount, nil))
	bad(api.ErrOver, out(maxAmount+1, []int{1}), out(math.MaxInt, []int{1}), out(maxAmount+1), out(1<<62, []int{1, 1}))
	bad(api.ErrArg, out(20), out(20, nil), out(20, []int{16}), out(20, []int{-1}), out(20, []int{2, 1}), out(20, []int{1, 1}), out(20, []int{1}, nil), out(dust), out(maxAmount))
	bad(api.ErrArg, out(20, slices.Repeat([][]int{{1}}, 9)...), out(20, upTo(17)), out(20, slices.Repeat([][]int{{1}}, 5000)...), out(20, make([]int, 5000)))
	bad(api.ErrArg, branch(cond.Branch{Keys: []int{1}, After: -1}), branch(cond.Branch{Keys: []int{1}, After: maxHeight + 1}))
	bad(api.ErrArg, branch(cond.Branch{Keys: []int{1}, Older: -1}), branch(cond.Branch{Keys: []int{1}, Older: 1<<16 + 1}))
	return l
}

// SP1: each error of Take alone, and each two at once.
func TestTakeFaults(t *testing.T) {
	l := sideFaults()
	for _, n := range []int{30, 31, 32, 64, 100, 256} {
		l.add(2, api.ErrSlot, "outputs", fmt.Sprint(n, " outputs"), func(s *scene) {
			if s.side == 0 || s.side == 1 {
				s.d.Outs[s.side] = append(outs(many(n-len(s.d.Outs[s.side]), 10)...), s.d.Outs[s.side]...)
			}
		})
	}
	l = append(l, outFaults(3)...)
	eachBase(func(fresh func() scene) {
		l.each(t, fresh, func(s scene, no api.Errno) {
			_, err := splice.Take(s.d, s.side, s.o)
			wantErr(t, s.what, err, no)
		})
	})
}

// SP1: what Take lets by: each output that can be; it stands behind the side's others.
func TestTake(t *testing.T) {
	rich := cond.Branch{Keys: upTo(16), Lock: api.Hash{7}, After: maxHeight, Older: 1 << 16}
	eachBase(func(fresh func() scene) {
		for _, o := range []tx.Out{
			out(dust, []int{1}), out(11, []int{0}), out(maxAmount-1, []int{15}), out(maxAmount, []int{1}), out(20, []int{7, 8}), out(12, []int{1}), base().d.Outs[0][0],
			{Amount: 20, Cond: cond.Cond{Branches: []cond.Branch{rich}}}, {Amount: maxAmount, Cond: cond.Cond{Branches: slices.Repeat([]cond.Branch{rich}, 8)}},
		} {
			s := fresh()
			s.o = o
			s.what = fmt.Sprint(s.what, ": ", o)
			s.try(t)
			wanted := fresh().d
			wanted.Outs[s.side] = append(wanted.Outs[s.side], o)
			d, err := splice.Take(s.d, s.side, s.o)
			want(t, s.what, d, err, wanted, 0)
		}
	})
}

// SP1: a side takes 30 outputs, and the other one as many, be they the same; the 31st of each is one too many.
func TestTakeMany(t *testing.T) {
	s := scene{d: splice.Deal{Params: params(full(), 5), State: full()}, c: coin(4, 2, 25)}
	for _, side := range []int{1, 0} {
		s.side = side
		for i := range 33 {
			s.what, s.o = fmt.Sprint("side ", side, ", output ", i), out(10+i, []int{i % 16})
			s.try(t)
			d, err := splice.Take(s.d, side, s.o)
			if i >= most {
				wantErr(t, s.what, err, api.ErrSlot)
				continue
			}
			wantErr(t, s.what, err, 0)
			s.d = d
			if l := s.d.Outs[side]; len(l) != i+1 || l[i].Amount != 10+i || l[0].Amount != 10 {
				t.Errorf("%s: %v", s.what, l)
			}
		}
	}
}

// SP1: what a side takes alone is asked for its own bounds, not for what all take.
func TestTakeAlone(t *testing.T) {
	s := base()
	for i := range 5 {
		d, err := splice.Take(s.d, 1, out(maxAmount, []int{1}))
		wantErr(t, fmt.Sprint("MaxAmount, time ", i), err, 0)
		s.d = d
	}
	s.what = "much more than MaxAmount"
	s.try(t)
}

// SP1: Close at each side, twice, and of both sides in either order; nobody adds anything to a side that is ready, and the other one goes on.
func TestClose(t *testing.T) {
	for first := range 2 {
		s := base()
		for i, side := range []int{first, 1 - first} {
			for _, other := range sides()[2:] {
				got, err := splice.Close(s.d, other)
				want(t, fmt.Sprint("Close of ", other), got, err, splice.Deal{}, api.ErrParty)
			}
			d, err := splice.Close(s.d, side)
			wanted := cloneDeal(s.d)
			wanted.Ready[side] = true
			want(t, fmt.Sprint("Close of ", side), d, err, wanted, 0)
			if s.d.Ready[side] {
				t.Error("the deal that was handed in is closed")
			}
			s.d, s.what = d, fmt.Sprint("closed by ", side)
			for _, s.side = range sides() {
				s.try(t)
			}
			for range 2 {
				got, err := splice.Close(s.d, side)
				want(t, fmt.Sprint("Close of ", side, " again"), got, err, splice.Deal{}, api.ErrState)
			}
			_, err = splice.Bring(s.d, side, s.c)
			wantErr(t, s.what+": Bring", err, api.ErrState)
			_, err = splice.Take(s.d, side, s.o)
			wantErr(t, s.what+": Take", err, api.ErrState)
			no := []api.Errno{0, api.ErrState}[i]
			_, err = splice.Bring(s.d, 1-side, s.c)
			wantErr(t, s.what+": Bring by the other one", err, no)
			_, err = splice.Take(s.d, 1-side, s.o)
			wantErr(t, s.what+": Take by the other one", err, no)
		}
	}
}

// SP1: Bring, Take and Close ask for no more than their words do, of a deal that is made by hand: of the zero one, and of one whose Params and State can't be.
func TestByHand(t *testing.T) {
	zero := scene{what: "the zero deal", c: coin(1, 0, 10), o: out(10, []int{1})}
	for _, zero.side = range sides() {
		zero.try(t)
	}
	_, err := splice.Bring(splice.Deal{}, 0, splice.Coin{Amount: 10})
	wantErr(t, "the zero point, which is the zero channel's", err, api.ErrTwice)
	d, err := splice.Bring(splice.Deal{}, 0, zero.c)
	want(t, "Bring", d, err, splice.Deal{Ins: [2][]splice.Coin{{zero.c}, nil}}, 0)
	checkFaults(0).each(t, base, func(s scene, no api.Errno) {
		d, err := splice.Bring(s.d, 1, s.c)
		wantErr(t, s.what+": Bring", err, 0)
		d, err = splice.Take(d, 0, s.o)
		wantErr(t, s.what+": Take", err, 0)
		d, err = splice.Close(d, 0)
		wantErr(t, s.what+": Close", err, 0)
		if len(d.Ins[1]) != 2 || len(d.Outs[0]) != 2 || !d.Ready[0] {
			t.Errorf("%s: %v", s.what, d)
		}
	})
	s := base()
	s.what = "amounts and outputs that can't be"
	s.d.Ins[0] = append(s.d.Ins[0], coin(1, 0, -7), coin(1, 0, math.MaxInt), s.d.Ins[1][0])
	s.d.Outs[1] = append(s.d.Outs[1], tx.Out{}, tx.Out{Amount: -9, Cond: cond.Cond{Branches: make([]cond.Branch, 20)}}, out(math.MaxInt, nil))
	for _, s.side = range sides() {
		s.try(t)
	}
	long := base()
	long.what, long.d.Ins[1], long.d.Outs[1] = "long lists of the other side", coins(40, many(20000, 10)...), outs(many(20000, 10)...)
	long.try(t)
	_, err = splice.Bring(long.d, 0, long.d.Ins[1][19999])
	wantErr(t, "the last coin of the other side", err, api.ErrTwice)
}
