package state_test

import (
	"fmt"
	"math"
	"slices"
	"testing"

	"bayou/api"
	"bayou/blake"
	"bayou/state"
)

// The chapter's example, and the document's first one.
func TestExample(t *testing.T) {
	s, err := state.Move(state.State{Has: [2]int{50, 50}}, 0, 20)
	wantErr(t, "Move", err, 0)
	wantState(t, "Move", s, state.State{Number: 1, Has: [2]int{30, 70}})
	s, err = state.Move(state.State{Has: [2]int{500, 300}}, 0, 20)
	wantErr(t, "Move", err, 0)
	wantState(t, "Move", s, state.State{Number: 1, Has: [2]int{480, 320}})
}

// checkOne holds Check and Total against the words of the chapter.
func checkOne(t *testing.T, what string, s state.State, may bool) {
	t.Helper()
	if mayBe(s) != may {
		t.Errorf("%s: the plain rule says %v, not %v", what, !may, may)
	}
	want, sum := api.ErrArg, 0
	if may {
		want, sum = 0, int(all(s).Int64())
	}
	ahead := clone(s)
	wantErr(t, "Check: "+what, state.Check(s), want)
	if got := state.Total(s); got != sum {
		t.Errorf("Total: %s: %d, want %d", what, got, sum)
	}
	if !same(s, ahead) {
		t.Errorf("%s: it was changed", what)
	}
}

// ST1: states that may be, and that may not be.
func TestCheck(t *testing.T) {
	for _, s := range goodStates() {
		checkOne(t, s.name, s.State, true)
	}
	checkOne(t, "the last number", state.State{Number: maxHeight, Has: [2]int{5, 6}}, true)
	for _, s := range badStates() {
		checkOne(t, s.name, s.State, false)
	}
}

// ST1: each number alone at its bounds, one beyond them, and far beyond.
func TestCheckBounds(t *testing.T) {
	one := func() state.State {
		return state.State{Pays: []state.Pay{pay(1, 0, dust)}, Holds: []state.Hold{hold(1, dust, 3)}}
	}
	for _, x := range []struct {
		name        string
		least, most int
		with        func(n int) state.State
	}{
		{"Number", 0, maxHeight, func(n int) state.State { s := one(); s.Number = n; return s }},
		{"side 0", 0, maxAmount, func(n int) state.State { return state.State{Has: [2]int{n, 0}} }},
		{"side 1", 0, maxAmount, func(n int) state.State { return state.State{Has: [2]int{0, n}} }},
		{"a payment's ID", 0, maxID, func(n int) state.State { s := one(); s.Pays[0].ID = n; return s }},
		{"From", 0, 1, func(n int) state.State { s := one(); s.Pays[0].From = n; return s }},
		{"a payment's Amount", dust, maxAmount, func(n int) state.State { return state.State{Pays: []state.Pay{pay(1, 1, n)}} }},
		{"After", 0, maxHeight, func(n int) state.State { s := one(); s.Pays[0].After = n; return s }},
		{"a hold's ID", 0, maxID, func(n int) state.State { s := one(); s.Holds[0].ID = n; return s }},
		{"a hold's Amount", dust, maxAmount, func(n int) state.State { return state.State{Holds: []state.Hold{hold(1, n, 3)}} }},
		{"a key", 0, parties - 1, func(n int) state.State { s := one(); s.Holds[0].Keys[0] = n; return s }},
	} {
		for _, n := range []int{math.MinInt, -maxAmount, -maxHeight, -2, -1, x.least - 1} {
			checkOne(t, fmt.Sprint(x.name, " ", n), x.with(n), n == x.least)
		}
		for _, n := range []int{x.least, x.most} {
			checkOne(t, fmt.Sprint(x.name, " ", n), x.with(n), true)
		}
		for _, n := range []int{x.most + 1, x.most + 2, 2 * (x.most + 1), math.MaxInt - 1, math.MaxInt} {
			checkOne(t, fmt.Sprint(x.name, " ", n), x.with(n), false)
		}
	}
}

// ST1: payments and holds are counted together.
func TestCheckSlots(t *testing.T) {
	for p := range 11 {
		for h := range 11 {
			checkOne(t, fmt.Sprintf("%d payments and %d holds", p, h), state.State{Pays: pays(p), Holds: holds(h)}, p+h <= slots)
		}
	}
}

// ST1: IDs that rise, stand still and fall; those of payments and those of holds have nothing to do with one another.
func TestCheckRising(t *testing.T) {
	ids := []int{0, 1, 2, 77, maxID}
	for _, a := range ids {
		for _, b := range ids {
			for _, c := range ids {
				may := a < b && b < c
				what := fmt.Sprint(a, " ", b, " ", c)
				p := []state.Pay{pay(a, 0, 20), pay(b, 1, 20), pay(c, 0, 20)}
				h := []state.Hold{hold(a, 20, 1), hold(b, 20, 1), hold(c, 20, 1)}
				checkOne(t, "payments "+what, state.State{Pays: p}, may)
				checkOne(t, "holds "+what, state.State{Holds: h}, may)
				checkOne(t, "both "+what, state.State{Pays: p, Holds: h}, may)
			}
			checkOne(t, fmt.Sprintf("a payment %d and a hold %d", a, b), state.State{Pays: []state.Pay{pay(a, 0, 20)}, Holds: []state.Hold{hold(b, 20, 1)}}, true)
		}
	}
}

// ST1: a lock of noughts may not be; each other one may.
func TestCheckLock(t *testing.T) {
	p := pay(1, 0, 20)
	p.Lock = api.Hash{}
	checkOne(t, "a lock of noughts", state.State{Pays: []state.Pay{p}}, false)
	for k := range 256 {
		p.Lock = api.Hash{}
		p.Lock[k/8] = 1 << (k % 8)
		checkOne(t, fmt.Sprint("a lock of the bit ", k), state.State{Pays: []state.Pay{p}}, true)
	}
}

// ST1: keys: of none, of MaxParty and one more, each pair, and each set.
func TestCheckKeys(t *testing.T) {
	with := func(keys ...int) state.State { return state.State{Holds: []state.Hold{hold(1, 20, keys...)}} }
	checkOne(t, "no keys", with(), false)
	checkOne(t, "all keys", with(upTo(parties)...), true)
	checkOne(t, "all keys and one more", with(upTo(parties+1)...), false)
	checkOne(t, "all keys and the last again", with(append(upTo(parties), parties-1)...), false)
	checkOne(t, "all keys and the first again", with(append([]int{0}, upTo(parties)...)...), false)
	checkOne(t, "all keys and one below", with(append([]int{-1}, upTo(parties)...)...), false)
	for a := -2; a <= parties+1; a++ {
		for b := -2; b <= parties+1; b++ {
			checkOne(t, fmt.Sprintf("the keys %d and %d", a, b), with(a, b), 0 <= a && a < b && b < parties)
		}
	}
	for set := range 1 << parties {
		var keys []int
		for k := range parties {
			if set>>k&1 == 1 {
				keys = append(keys, k)
			}
		}
		if got := state.Check(with(keys...)); (got == nil) != (set != 0) {
			t.Errorf("the keys %v: %v", keys, got)
		}
	}
}

// ST1: all together at MaxAmount, and one above, whoever has it.
func TestCheckTogether(t *testing.T) {
	full := state.State{Has: [2]int{1 << 40, 1 << 40}, Pays: pays(4), Holds: holds(4)}
	left := maxAmount - int(all(full).Int64())
	for i, part := range parts(&full) {
		for _, more := range []int{-1, 0, 1} {
			*part += left + more
			checkOne(t, fmt.Sprintf("all but %d, part %d", -more, i), full, more <= 0)
			*part -= left + more
		}
	}
}

// parts are where the amounts of a state stand.
func parts(s *state.State) []*int {
	l := []*int{&s.Has[0], &s.Has[1]}
	for i := range s.Pays {
		l = append(l, &s.Pays[i].Amount)
	}
	for i := range s.Holds {
		l = append(l, &s.Holds[i].Amount)
	}
	return l
}

// ST1: sums that an int can't hold, of which some would wrap round to what may be.
func TestCheckWrap(t *testing.T) {
	s := state.State{Has: [2]int{20, 20}, Pays: pays(4), Holds: holds(4)}
	all := parts(&s)
	for i := range all {
		for j := range i {
			for _, two := range [][2]int{{math.MaxInt, math.MaxInt}, {math.MinInt, math.MinInt}, {math.MaxInt, math.MinInt}, {math.MinInt, math.MaxInt}, {1 << 62, 1 << 62}, {-100, 120}, {maxAmount + 1, -maxAmount}} {
				a, b := *all[i], *all[j]
				*all[i], *all[j] = two[0], two[1]
				checkOne(t, fmt.Sprintf("%d and %d at %d and %d", two[0], two[1], i, j), s, false)
				*all[i], *all[j] = a, b
			}
		}
	}
	for n, each := range map[int]int{4: 1 << 62, 8: 1 << 61} {
		c := clone(s)
		for _, at := range parts(&c)[:n] {
			*at = each
		}
		checkOne(t, fmt.Sprint(n, " that wrap round to 0"), c, false)
	}
}

// ST1: Total of states that are told by hand.
func TestTotal(t *testing.T) {
	for _, x := range []struct {
		want int
		s    state.State
	}{
		{0, state.State{}},
		{1, state.State{Has: [2]int{1, 0}}},
		{2, state.State{Has: [2]int{0, 2}}},
		{100, state.State{Has: [2]int{50, 50}, Number: 1000}},
		{113, state.State{Has: [2]int{50, 50}, Pays: []state.Pay{pay(1, 0, 13)}}},
		{114, state.State{Has: [2]int{50, 50}, Holds: []state.Hold{hold(1, 14, 1, 2)}}},
		{161, state.State{Has: [2]int{50, 50}, Pays: []state.Pay{pay(1, 0, 13), pay(2, 1, 14)}, Holds: []state.Hold{hold(1, 16, 1, 2), hold(2, 18, 1)}}},
		{maxAmount, state.State{Has: [2]int{maxAmount - 30, 10}, Pays: []state.Pay{pay(1, 0, 10)}, Holds: []state.Hold{hold(1, 10, 1)}, Number: maxHeight}},
		{0, state.State{Has: [2]int{maxAmount - 30, 11}, Pays: []state.Pay{pay(1, 0, 10)}, Holds: []state.Hold{hold(1, 10, 1)}}},
		{0, state.State{Has: [2]int{50, -1}}},
		{0, state.State{Has: [2]int{50, 50}, Number: -1}},
		{0, state.State{Has: [2]int{50, 50}, Pays: []state.Pay{pay(1, 0, 9)}}},
		{0, state.State{Has: [2]int{50, 50}, Holds: []state.Hold{hold(1, 10)}}},
	} {
		if got := state.Total(x.s); got != x.want {
			t.Errorf("Total of %v: %d, want %d", x.s, got, x.want)
		}
	}
}

// rightSteps are steps that base and its like let by.
func rightSteps() []step {
	return []step{
		move(0, 1), move(1, 5), add(pay(5, 0, 20)), add(pay(1, 1, 20)), settle(2, secretOf(2)), fail(4),
		resize(0, 7), resize(1, -7), keep(0, hold(5, 20, 1, 2)), keep(1, hold(3, 10, 4)), free(2, 3), free(4, 0),
	}
}

// wrongSteps are steps that no state lets by, each of their errors among them.
func wrongSteps() []step {
	p, q := pay(1, 2, 20), pay(1, 0, 20)
	q.Lock = api.Hash{}
	return []step{
		move(2, 1), move(-1, 1), move(0, 0), move(0, maxAmount+1), move(math.MinInt, math.MinInt),
		add(p), add(q), add(pay(1, 0, 9)), add(pay(-1, 1, 20)), add(pay(1, 1, maxAmount+1)), add(state.Pay{From: -1}),
		settle(-1, nil), settle(maxID+1, nil), fail(-1), fail(math.MaxInt),
		resize(2, 1), resize(-1, 0), resize(0, math.MinInt), resize(1, math.MaxInt),
		keep(2, hold(1, 20, 1)), keep(0, hold(1, 9, 1)), keep(0, hold(1, 20)), keep(-1, state.Hold{}),
		free(-1, 0), free(2, -1), free(2, math.MaxInt),
	}
}

// ST1: first of all ErrArg, of a state that may not be, and of the last number, whatever else is right or wrong.
func TestArgFirst(t *testing.T) {
	last := base()
	last.Number = maxHeight
	full := state.State{Number: maxHeight, Pays: pays(4), Holds: holds(4)}
	l := append(badStates(), named{"the last number", last}, named{"the last number, all slots", full}, named{"the last number of nothing", state.State{Number: maxHeight}})
	for _, s := range l {
		for _, c := range append(rightSteps(), wrongSteps()...) {
			got, err := c.do(s.State)
			what := c.name + ": " + s.name
			wantErr(t, what, err, api.ErrArg)
			if !isZero(got) {
				t.Errorf("%s: %v beside an error", what, got)
			}
		}
	}
}

// ST1: the right steps are let by; the last number is reached, and no more.
func TestNumber(t *testing.T) {
	for _, number := range []int{0, 1, 41, maxHeight - 2, maxHeight - 1} {
		for _, c := range rightSteps() {
			s := base()
			s.Number = number
			got, no := try(t, s, c)
			if no != 0 || got.Number != number+1 {
				t.Errorf("%s at %d: %v, %v", c.name, number, got, no)
			}
		}
	}
}

// ST1: the wrong steps are refused, and beside their errors is the zero state.
func TestWrong(t *testing.T) {
	for _, s := range goodStates() {
		for _, c := range wrongSteps() {
			got, err := c.do(s.State)
			if err == nil || !isZero(got) {
				t.Errorf("%s: %s: %v, %v", c.name, s.name, got, err)
			}
			try(t, s.State, c)
		}
	}
}

// told is a step of which the answer is written by hand.
type told struct {
	step
	no   api.Errno
	want state.State
}

// tryTold holds steps of one state against what is written by hand.
func tryTold(t *testing.T, s state.State, l []told) {
	t.Helper()
	for _, x := range l {
		got, err := x.do(s)
		wantErr(t, x.name, err, x.no)
		wantState(t, x.name, got, x.want)
		try(t, s, x.step)
	}
}

// ST2: Move, told by hand: each error alone, two at once, and what is moved.
func TestMove(t *testing.T) {
	s := state.State{Number: 7, Has: [2]int{30, 40}, Pays: pays(1), Holds: holds(1)}
	with := func(a, b int) state.State {
		return state.State{Number: 8, Has: [2]int{a, b}, Pays: pays(1), Holds: holds(1)}
	}
	tryTold(t, s, []told{
		{move(0, 1), 0, with(29, 41)},
		{move(1, 1), 0, with(31, 39)},
		{move(0, 9), 0, with(21, 49)}, // less than Dust may be moved
		{move(0, 30), 0, with(0, 70)},
		{move(1, 40), 0, with(70, 0)},
		{step: move(0, 31), no: api.ErrFunds},
		{step: move(1, 41), no: api.ErrFunds},
		{step: move(0, 0), no: api.ErrDust},
		{step: move(1, 0), no: api.ErrDust},
		{step: move(0, -1), no: api.ErrDust},
		{step: move(1, -1), no: api.ErrDust},
		{step: move(0, math.MinInt), no: api.ErrDust},
		{step: move(0, math.MaxInt), no: api.ErrFunds},
		{step: move(1, math.MaxInt), no: api.ErrFunds},
		{step: move(2, 1), no: api.ErrParty},
		{step: move(-1, 1), no: api.ErrParty},
		{step: move(math.MinInt, 1), no: api.ErrParty},
		{step: move(math.MaxInt, 1), no: api.ErrParty},
		{step: move(2, 0), no: api.ErrParty},
		{step: move(2, 1000), no: api.ErrParty},
		{step: move(-1, -1), no: api.ErrParty},
	})
}

// sides are numbers of sides, and of none.
func sides() []int { return []int{0, 1, -1, 2, math.MinInt, math.MaxInt} }

// amounts are amounts at the edges, those of a state's sides, its payments and its holds among them.
func amounts(s state.State) []int {
	l := []int{math.MinInt, math.MinInt + 1, -maxAmount - 1, -1, 0, 1, dust - 1, dust, dust + 1, maxAmount - 1, maxAmount, maxAmount + 1, math.MaxInt - 1, math.MaxInt}
	left := maxAmount - int(all(s).Int64())
	for _, at := range append(parts(&s), &left) {
		l = append(l, *at-1, *at, *at+1, -*at-1, -*at, 1-*at)
	}
	slices.Sort(l)
	return slices.Compact(l)
}

// ST2, ST5: Move of all kinds of amounts.
func TestMoveEach(t *testing.T) {
	for _, s := range goodStates() {
		for _, side := range sides() {
			for _, amount := range amounts(s.State) {
				try(t, s.State, move(side, amount))
			}
		}
	}
}

// payWith is a payment of 20 from side 0, of which something is changed.
func payWith(change func(p *state.Pay)) state.Pay {
	p := state.Pay{ID: 5, From: 0, Amount: 20, After: 7, Lock: api.Hash{1}}
	change(&p)
	return p
}

// ST2: Add, told by hand: each error alone, and what waits.
func TestAdd(t *testing.T) {
	s := state.State{Number: 7, Has: [2]int{30, 40}, Pays: pays(2), Holds: holds(2)}
	a, b := s.Pays[0], s.Pays[1]
	with := func(x, y int, l ...state.Pay) state.State {
		return state.State{Number: 8, Has: [2]int{x, y}, Pays: l, Holds: holds(2)}
	}
	id := func(n int) state.Pay { return payWith(func(p *state.Pay) { p.ID = n }) }
	amount := func(side, n int) state.Pay {
		return payWith(func(p *state.Pay) { p.From, p.Amount = side, n })
	}
	after := func(n int) state.Pay { return payWith(func(p *state.Pay) { p.After = n }) }
	no := func(c step, no api.Errno) told { return told{step: c, no: no} }
	tryTold(t, s, []told{
		{add(id(1)), 0, with(10, 40, id(1), a, b)},
		{add(id(0)), 0, with(10, 40, id(0), a, b)},
		{add(id(3)), 0, with(10, 40, a, id(3), b)},
		{add(id(5)), 0, with(10, 40, a, b, id(5))},
		{add(id(maxID)), 0, with(10, 40, a, b, id(maxID))},
		{add(amount(0, 10)), 0, with(20, 40, a, b, amount(0, 10))},
		{add(amount(1, 10)), 0, with(30, 30, a, b, amount(1, 10))},
		{add(amount(0, 30)), 0, with(0, 40, a, b, amount(0, 30))},
		{add(amount(1, 40)), 0, with(30, 0, a, b, amount(1, 40))},
		{add(after(0)), 0, with(10, 40, a, b, after(0))},
		{add(after(maxHeight)), 0, with(10, 40, a, b, after(maxHeight))},
		no(add(amount(-1, 20)), api.ErrParty),
		no(add(amount(2, 20)), api.ErrParty),
		no(add(amount(0, 9)), api.ErrDust),
		no(add(amount(1, 0)), api.ErrDust),
		no(add(amount(1, -1)), api.ErrDust),
		no(add(amount(1, -20)), api.ErrDust),
		no(add(amount(0, math.MinInt)), api.ErrDust),
		no(add(amount(0, maxAmount)), api.ErrFunds),
		no(add(amount(0, maxAmount+1)), api.ErrArg),
		no(add(amount(1, math.MaxInt)), api.ErrArg),
		no(add(id(-1)), api.ErrArg),
		no(add(id(maxID+1)), api.ErrArg),
		no(add(id(math.MinInt)), api.ErrArg),
		no(add(after(-1)), api.ErrArg),
		no(add(after(maxHeight+1)), api.ErrArg),
		no(add(payWith(func(p *state.Pay) { p.Lock = api.Hash{} })), api.ErrArg),
		no(add(id(2)), api.ErrTwice),
		no(add(id(4)), api.ErrTwice),
		no(add(a), api.ErrTwice),
		no(add(amount(0, 31)), api.ErrFunds),
		no(add(amount(1, 41)), api.ErrFunds),
	})
}

// ST2: of two errors of Add the one that the rule names first.
func TestAddOrder(t *testing.T) {
	full := state.State{Has: [2]int{30, 40}, Pays: pays(5), Holds: holds(3)}
	type change = func(p *state.Pay)
	l := []struct {
		no api.Errno
		change
	}{
		{api.ErrParty, func(p *state.Pay) { p.From = 2 }},
		{api.ErrDust, func(p *state.Pay) { p.Amount = 9 }},
		{api.ErrArg, func(p *state.Pay) { p.After = -1 }},
		{api.ErrTwice, func(p *state.Pay) { p.ID = 4 }},
		{api.ErrSlot, func(p *state.Pay) {}},
		{api.ErrFunds, func(p *state.Pay) { p.Amount = max(p.Amount, 1000) }},
	}
	for i, x := range l {
		for _, y := range l[i:] {
			c := add(payWith(func(p *state.Pay) { p.ID = 5; y.change(p); x.change(p) }))
			s := full
			if x.no == api.ErrFunds {
				s.Pays = pays(4)
			}
			got, err := c.do(s)
			wantErr(t, c.name, err, x.no)
			if !isZero(got) {
				t.Errorf("%s: %v beside an error", c.name, got)
			}
			try(t, s, c)
		}
	}
}

// ids are IDs at the edges, those that are there, and those beside them.
func ids(s state.State) []int {
	l := []int{math.MinInt, -1, 0, 1, 2, 3, maxID - 1, maxID, maxID + 1, math.MaxInt}
	for _, p := range s.Pays {
		l = append(l, p.ID-1, p.ID, p.ID+1)
	}
	for _, h := range s.Holds {
		l = append(l, h.ID-1, h.ID, h.ID+1)
	}
	slices.Sort(l)
	return slices.Compact(l)
}

// ST2, ST5: Add of all kinds of payments.
func TestAddEach(t *testing.T) {
	for _, s := range goodStates() {
		for _, id := range ids(s.State) {
			for _, side := range []int{0, 1, -1, 2} {
				for _, amount := range []int{math.MinInt, -1, dust - 1, dust, s.Has[0], s.Has[1], s.Has[0] + 1, s.Has[1] + 1, maxAmount + 1, math.MaxInt} {
					for _, after := range []int{-1, 0, maxHeight, maxHeight + 1} {
						for _, lock := range []api.Hash{{}, {31: 1}} {
							try(t, s.State, add(state.Pay{ID: id, From: side, Amount: amount, After: after, Lock: lock}))
						}
					}
				}
			}
		}
	}
}

// ST2: with MaxSlots there, whether of payments, of holds or of both, there is room for none; with one fewer for one.
func TestSlots(t *testing.T) {
	for n := range slots + 1 {
		for _, there := range []int{slots - 1, slots} {
			if n > there {
				continue
			}
			s := state.State{Has: [2]int{90, 90}, Pays: pays(n), Holds: holds(there - n)}
			want := api.Errno(0)
			if there == slots {
				want = api.ErrSlot
			}
			for _, c := range []step{add(pay(0, 0, 20)), add(pay(99, 1, 90)), keep(0, hold(0, 20, 1)), keep(1, hold(99, 90, 1))} {
				_, err := c.do(s)
				wantErr(t, fmt.Sprintf("%s with %d payments of %d", c.name, n, there), err, want)
				try(t, s, c)
			}
		}
	}
}

// ST2: Settle, told by hand: to the other side than From; each error.
func TestSettle(t *testing.T) {
	long := slices.Repeat([]byte("long"), 100000)
	short, none := []byte{0}, []byte(nil)
	l := []state.Pay{pay(0, 0, 10), pay(3, 1, 11), pay(5, 0, 12), pay(8, 1, 13), pay(maxID, 0, 14)}
	l[1].Lock, l[2].Lock, l[3].Lock = blake.Sum(none), blake.Sum(long), blake.Sum(short)
	s := state.State{Number: 7, Has: [2]int{30, 40}, Pays: l, Holds: holds(2)}
	with := func(a, b, gone int) state.State {
		return state.State{Number: 8, Has: [2]int{a, b}, Pays: slices.Concat(l[:gone], l[gone+1:]), Holds: holds(2)}
	}
	no := func(id int, secret []byte, no api.Errno) told { return told{step: settle(id, secret), no: no} }
	tryTold(t, s, []told{
		{settle(0, secretOf(0)), 0, with(30, 50, 0)},
		{settle(3, none), 0, with(41, 40, 1)},
		{settle(3, []byte{}), 0, with(41, 40, 1)},
		{settle(5, long), 0, with(30, 52, 2)},
		{settle(8, short), 0, with(43, 40, 3)},
		{settle(maxID, secretOf(maxID)), 0, with(30, 54, 4)},
		no(0, secretOf(1), api.ErrHash),
		no(0, nil, api.ErrHash),
		no(0, []byte{}, api.ErrHash),
		no(0, long, api.ErrHash),
		no(0, append(secretOf(0), 0), api.ErrHash),
		no(0, secretOf(0)[1:], api.ErrHash),
		no(0, l[0].Lock[:], api.ErrHash),
		no(3, short, api.ErrHash),
		no(5, long[1:], api.ErrHash),
		no(8, none, api.ErrHash),
		no(8, []byte{0, 0}, api.ErrHash),
		no(1, secretOf(1), api.ErrNone),
		no(2, secretOf(2), api.ErrNone), // a hold has this ID
		no(4, nil, api.ErrNone),
		no(9, short, api.ErrNone),
		no(-1, secretOf(-1), api.ErrNone),
		no(maxID-1, nil, api.ErrNone),
		no(maxID+1, nil, api.ErrNone),
		no(math.MinInt, nil, api.ErrNone),
		no(math.MaxInt, long, api.ErrNone),
	})
}

// ST2: Fail, told by hand: back to From.
func TestFail(t *testing.T) {
	l := []state.Pay{pay(0, 0, 10), pay(3, 1, 11), pay(maxID, 0, 14)}
	s := state.State{Number: 7, Has: [2]int{30, 40}, Pays: l, Holds: holds(2)}
	with := func(a, b int, l ...state.Pay) state.State {
		return state.State{Number: 8, Has: [2]int{a, b}, Pays: l, Holds: holds(2)}
	}
	tryTold(t, s, []told{
		{fail(0), 0, with(40, 40, l[1], l[2])},
		{fail(3), 0, with(30, 51, l[0], l[2])},
		{fail(maxID), 0, with(44, 40, l[0], l[1])},
		{step: fail(1), no: api.ErrNone},
		{step: fail(2), no: api.ErrNone}, // a hold has this ID
		{step: fail(-1), no: api.ErrNone},
		{step: fail(maxID + 1), no: api.ErrNone},
		{step: fail(math.MinInt), no: api.ErrNone},
		{step: fail(math.MaxInt), no: api.ErrNone},
	})
}

// ST2, ST5: Settle and Fail of all IDs, with the right secret, another one's, and none.
func TestSettleEach(t *testing.T) {
	for _, s := range goodStates() {
		for _, id := range ids(s.State) {
			for _, secret := range [][]byte{secretOf(id), secretOf(id + 1), nil} {
				try(t, s.State, settle(id, secret))
			}
			try(t, s.State, fail(id))
		}
	}
}

// ST3: Resize, told by hand.
func TestResize(t *testing.T) {
	s := state.State{Number: 7, Has: [2]int{30, 40}, Pays: pays(2), Holds: holds(1)} // 101 together
	with := func(a, b int) state.State {
		return state.State{Number: 8, Has: [2]int{a, b}, Pays: pays(2), Holds: holds(1)}
	}
	const left = maxAmount - 101
	tryTold(t, s, []told{
		{resize(0, 0), 0, with(30, 40)},
		{resize(1, 0), 0, with(30, 40)},
		{resize(0, 1), 0, with(31, 40)},
		{resize(1, 1), 0, with(30, 41)},
		{resize(0, -1), 0, with(29, 40)},
		{resize(1, -1), 0, with(30, 39)},
		{resize(0, -30), 0, with(0, 40)},
		{resize(1, -40), 0, with(30, 0)},
		{resize(0, left), 0, with(30+left, 40)},
		{resize(1, left), 0, with(30, 40+left)},
		{step: resize(0, -31), no: api.ErrFunds},
		{step: resize(1, -41), no: api.ErrFunds},
		{step: resize(0, math.MinInt), no: api.ErrFunds},
		{step: resize(1, math.MinInt), no: api.ErrFunds},
		{step: resize(0, left+1), no: api.ErrOver},
		{step: resize(1, left+1), no: api.ErrOver},
		{step: resize(0, math.MaxInt), no: api.ErrOver},
		{step: resize(1, math.MaxInt), no: api.ErrOver},
		{step: resize(2, 0), no: api.ErrParty},
		{step: resize(-1, 1), no: api.ErrParty},
		{step: resize(2, math.MinInt), no: api.ErrParty},
		{step: resize(2, math.MaxInt), no: api.ErrParty},
	})
}

// ST3: Resize of all kinds of amounts.
func TestResizeEach(t *testing.T) {
	for _, s := range goodStates() {
		for _, side := range sides() {
			for _, by := range amounts(s.State) {
				try(t, s.State, resize(side, by))
			}
		}
	}
}

// ST3: Keep, told by hand: each error alone, and what is held.
func TestKeep(t *testing.T) {
	s := state.State{Number: 7, Has: [2]int{30, 40}, Pays: pays(2), Holds: holds(2)}
	a, b := s.Holds[0], s.Holds[1]
	with := func(x, y int, l ...state.Hold) state.State {
		return state.State{Number: 8, Has: [2]int{x, y}, Pays: pays(2), Holds: l}
	}
	id := func(n int) state.Hold { return hold(n, 20, 1, 3) }
	amount := func(n int) state.Hold { return hold(5, n, 1, 3) }
	keys := func(l ...int) state.Hold { return hold(5, 20, l...) }
	no := func(side int, h state.Hold, no api.Errno) told { return told{step: keep(side, h), no: no} }
	tryTold(t, s, []told{
		{keep(0, id(0)), 0, with(10, 40, id(0), a, b)},
		{keep(1, id(1)), 0, with(30, 20, id(1), a, b)},
		{keep(0, id(3)), 0, with(10, 40, a, id(3), b)},
		{keep(1, id(5)), 0, with(30, 20, a, b, id(5))},
		{keep(0, id(maxID)), 0, with(10, 40, a, b, id(maxID))},
		{keep(0, amount(10)), 0, with(20, 40, a, b, amount(10))},
		{keep(0, amount(30)), 0, with(0, 40, a, b, amount(30))},
		{keep(1, amount(40)), 0, with(30, 0, a, b, amount(40))},
		{keep(0, keys(0)), 0, with(10, 40, a, b, keys(0))},
		{keep(0, keys(15)), 0, with(10, 40, a, b, keys(15))},
		{keep(0, keys(upTo(16)...)), 0, with(10, 40, a, b, keys(upTo(16)...))},
		no(-1, id(5), api.ErrParty),
		no(2, id(5), api.ErrParty),
		no(math.MinInt, id(5), api.ErrParty),
		no(0, amount(9), api.ErrDust),
		no(0, amount(1), api.ErrDust),
		no(0, amount(0), api.ErrDust),
		no(1, amount(-1), api.ErrDust),
		no(1, amount(math.MinInt), api.ErrDust),
		no(0, amount(maxAmount), api.ErrFunds),
		no(0, amount(maxAmount+1), api.ErrArg),
		no(0, amount(math.MaxInt), api.ErrArg),
		no(0, id(-1), api.ErrArg),
		no(0, id(maxID+1), api.ErrArg),
		no(0, id(math.MinInt), api.ErrArg),
		no(0, keys(), api.ErrArg),
		no(0, keys(-1), api.ErrArg),
		no(0, keys(16), api.ErrArg),
		no(0, keys(1, 1), api.ErrArg),
		no(0, keys(2, 1), api.ErrArg),
		no(0, keys(upTo(17)...), api.ErrArg),
		no(0, keys(make([]int, 1<<16)...), api.ErrArg),
		no(0, id(2), api.ErrTwice),
		no(1, id(4), api.ErrTwice),
		no(0, a, api.ErrTwice),
		no(0, amount(31), api.ErrFunds),
		no(1, amount(41), api.ErrFunds),
	})
}

// ST3: of two errors of Keep the one that the rule names first.
func TestKeepOrder(t *testing.T) {
	full := state.State{Has: [2]int{30, 40}, Pays: pays(5), Holds: holds(3)}
	type change = func(side *int, h *state.Hold)
	l := []struct {
		no api.Errno
		change
	}{
		{api.ErrParty, func(side *int, h *state.Hold) { *side = -1 }},
		{api.ErrDust, func(side *int, h *state.Hold) { h.Amount = 9 }},
		{api.ErrArg, func(side *int, h *state.Hold) { h.Keys = nil }},
		{api.ErrTwice, func(side *int, h *state.Hold) { h.ID = 4 }},
		{api.ErrSlot, func(side *int, h *state.Hold) {}},
		{api.ErrFunds, func(side *int, h *state.Hold) { h.Amount = max(h.Amount, 1000) }},
	}
	for i, x := range l {
		for _, y := range l[i:] {
			side, h := 1, hold(5, 20, 1)
			y.change(&side, &h)
			x.change(&side, &h)
			s := full
			if x.no == api.ErrFunds {
				s.Pays = pays(4)
			}
			c := keep(side, h)
			got, err := c.do(s)
			wantErr(t, c.name, err, x.no)
			if !isZero(got) {
				t.Errorf("%s: %v beside an error", c.name, got)
			}
			try(t, s, c)
		}
	}
}

// ST3, ST5: Keep of all kinds of holds.
func TestKeepEach(t *testing.T) {
	rows := [][]int{nil, {0}, {15}, {16}, {-1}, {3, 3}, {4, 3}, upTo(16), upTo(17)}
	for _, s := range goodStates() {
		for _, id := range ids(s.State) {
			for _, side := range []int{0, 1, -1, 2} {
				for _, amount := range []int{math.MinInt, -1, 0, 1, dust - 1, dust, s.Has[0], s.Has[1], s.Has[0] + 1, s.Has[1] + 1, maxAmount + 1, math.MaxInt} {
					for _, keys := range rows {
						try(t, s.State, keep(side, hold(id, amount, keys...)))
					}
				}
			}
		}
	}
}

// ST3: Free, told by hand.
func TestFree(t *testing.T) {
	l := []state.Hold{hold(0, 10, 1), hold(3, 11, 2, 3), hold(maxID, 12, 4)}
	s := state.State{Number: 7, Has: [2]int{30, 40}, Pays: pays(2), Holds: l}
	with := func(a, b int, l ...state.Hold) state.State {
		return state.State{Number: 8, Has: [2]int{a, b}, Pays: pays(2), Holds: l}
	}
	tryTold(t, s, []told{
		{free(0, 0), 0, with(30, 50, l[1], l[2])},
		{free(0, 1), 0, with(31, 49, l[1], l[2])},
		{free(0, 9), 0, with(39, 41, l[1], l[2])},
		{free(0, 10), 0, with(40, 40, l[1], l[2])},
		{free(3, 4), 0, with(34, 47, l[0], l[2])},
		{free(maxID, 12), 0, with(42, 40, l[0], l[1])},
		{step: free(0, 11), no: api.ErrFunds},
		{step: free(0, -1), no: api.ErrFunds},
		{step: free(3, 12), no: api.ErrFunds},
		{step: free(3, math.MinInt), no: api.ErrFunds},
		{step: free(3, math.MaxInt), no: api.ErrFunds},
		{step: free(1, 1), no: api.ErrNone},
		{step: free(2, 1), no: api.ErrNone}, // a payment has this ID
		{step: free(2, -1), no: api.ErrNone},
		{step: free(-1, 0), no: api.ErrNone},
		{step: free(maxID+1, 0), no: api.ErrNone},
		{step: free(math.MinInt, math.MinInt), no: api.ErrNone},
		{step: free(math.MaxInt, math.MaxInt), no: api.ErrNone},
	})
}

// ST3, ST5: Free of all IDs and all kinds of amounts.
func TestFreeEach(t *testing.T) {
	for _, s := range goodStates() {
		for _, id := range ids(s.State) {
			for _, first := range amounts(s.State) {
				try(t, s.State, free(id, first))
			}
		}
	}
}

// ST2, ST3: what was laid in and is taken out leaves all as it was, but for the number.
func TestThereAndBack(t *testing.T) {
	for _, s := range goodStates() {
		for side := range 2 {
			p, h := pay(1, side, dust), hold(1, dust, 1, 2)
			rows := [][]step{
				{add(p), fail(1)},
				{add(p), settle(1, secretOf(1)), move(1-side, dust)},
				{keep(side, h), free(1, dust*(1-side))},
				{resize(side, -1), resize(side, 1)},
				{move(side, 1), move(1-side, 1)},
			}
			for _, row := range rows {
				got, no := s.State, api.Errno(0)
				for _, c := range row {
					if no == 0 {
						got, no = try(t, got, c)
					}
				}
				want := clone(s.State)
				if want.Number += len(row); no == 0 {
					wantState(t, row[0].name+" and back: "+s.name, got, want)
				}
			}
		}
	}
}

// dice are numbers that follow from the first one.
type dice uint64

// next is a number below n.
func (d *dice) next(n int) int {
	*d = *d*6364136223846793005 + 1442695040888963407
	return int(uint64(*d) >> 33 % uint64(n))
}

// stepOf is a step that four numbers tell, on what is there in a state or near it.
func stepOf(s state.State, kind, a, b, c int) step {
	near := ids(s)
	id := near[a%len(near)]
	some := amounts(s)
	amount := some[c%len(some)]
	if c%3 > 0 {
		amount = c % 50
	}
	side := sides()[b%(2+b%2*4)]
	switch kind % 8 {
	case 0:
		return move(side, amount)
	case 1:
		return add(pay(id, side, amount))
	case 2:
		return settle(id, secretOf(id+b%7/6))
	case 3:
		return fail(id)
	case 4:
		return resize(side, amount)
	case 5:
		return keep(side, hold(id, amount, upTo(b%17+a%2)...))
	case 6:
		return free(id, amount)
	}
	return add(pay(b%9, b%2, dust+c%5))
}

// ST5: long rows of steps, held against plain rules, and the total against what came from outside.
func TestRows(t *testing.T) {
	kinds := map[string]int{}
	for seed := range 60 {
		d := dice(seed)
		s := goodStates()[seed%len(goodStates())].State
		sum := state.Total(s)
		for range 400 {
			c := stepOf(s, d.next(8), d.next(1000), d.next(1000), d.next(1000))
			got, no := try(t, s, c)
			kinds[fmt.Sprint(c.name[:3], " ", int(no))]++
			if no != 0 {
				continue
			}
			s = got
			sum += c.more
			if state.Total(s) != sum || s.Has[0] < 0 || s.Has[1] < 0 {
				t.Fatalf("behind %s: %v has %d together, want %d", c.name, s, state.Total(s), sum)
			}
		}
	}
	for _, kind := range []string{"Mov 0", "Mov 20", "Mov 27", "Mov 33", "Add 0", "Add 1", "Add 9", "Add 20", "Add 27", "Add 30", "Add 33", "Set 0", "Set 8", "Set 22", "Fai 0", "Fai 8", "Res 0", "Res 5", "Res 20", "Res 33", "Kee 0", "Kee 1", "Kee 9", "Kee 20", "Kee 27", "Kee 30", "Kee 33", "Fre 0", "Fre 8", "Fre 20"} {
		if kinds[kind] == 0 {
			t.Errorf("no step was %s: %v", kind, kinds)
		}
	}
}

// roomy is a state whose lists have spare room, which is filled, too.
func roomy(s state.State) state.State {
	s = clone(s)
	s.Pays = append(s.Pays, pay(901, 0, 901), pay(902, 0, 902))[:len(s.Pays)]
	s.Holds = append(s.Holds, hold(901, 901, 1), hold(902, 902, 2))[:len(s.Holds)]
	for i := range s.Holds {
		s.Holds[i].Keys = append(s.Holds[i].Keys, 91, 92)[:len(s.Holds[i].Keys)]
	}
	return s
}

// whole is a state with the spare room of its lists.
func whole(s state.State) state.State {
	s.Pays = s.Pays[:cap(s.Pays)]
	s.Holds = slices.Clone(s.Holds[:cap(s.Holds)])
	for i := range s.Holds {
		s.Holds[i].Keys = s.Holds[i].Keys[:cap(s.Holds[i].Keys)]
	}
	return s
}

// spoil writes over all of a state's lists, and over their spare room; each list is filled with numbers of its own, and it tells whether one is found in another list.
func spoil(s state.State) bool {
	s = whole(s)
	lists := s.Holds
	for i := range s.Pays {
		s.Pays[i] = state.Pay{ID: -5, From: -5, Amount: -5, After: -5}
	}
	for i := range lists {
		for j := range lists[i].Keys {
			lists[i].Keys[j] = -10 - i
		}
	}
	for i := range lists {
		for _, key := range lists[i].Keys {
			if key != -10-i {
				return true
			}
		}
	}
	return false
}

// spoilHolds writes over the holds of a state, and their spare room.
func spoilHolds(s state.State) {
	l := s.Holds[:cap(s.Holds)]
	for i := range l {
		l[i] = state.Hold{ID: -6, Amount: -6}
	}
}

// Rule 3: who changes a state that was handed in changes nothing of the one that was told, and the other way round; the spare room of lists is looked at, too.
func TestMemory(t *testing.T) {
	for _, s := range append(goodStates(), named{"base", base()}) {
		for _, c := range append(rightSteps(), wrongSteps()...) {
			want, no := expect(s.State, c)
			in := roomy(s.State)
			ahead := clone(whole(in))
			got, err := c.do(in)
			what := c.name + ": " + s.name
			wantErr(t, what, err, no)
			if !same(whole(in), ahead) {
				t.Errorf("%s: what was handed in, or its spare room, was changed", what)
			}
			spoil(in)
			spoilHolds(in)
			wantState(t, what+": behind a change of what was handed in", got, want)

			in = roomy(s.State)
			got, _ = c.do(in)
			if spoil(got) {
				t.Errorf("%s: two lists of keys share memory", what)
			}
			spoilHolds(got)
			if !same(whole(in), ahead) {
				t.Errorf("%s: a change of what was told changed what was handed in", what)
			}
		}
	}
}

// Rule 3: two answers of the same arguments share nothing.
func TestMemoryTwice(t *testing.T) {
	for _, c := range rightSteps() {
		s := base()
		want, _ := expect(s, c)
		one, _ := c.do(s)
		two, _ := c.do(s)
		spoil(one)
		spoilHolds(one)
		wantState(t, c.name+": behind a change of another answer", two, want)
	}
}

// Rule 3: the keys of a hold, and a secret, that are handed in are not changed and not kept.
func TestMemoryArguments(t *testing.T) {
	keys := append([]int{1, 2, 3}, 77)[:3]
	h := state.Hold{ID: 9, Amount: 20, Keys: keys}
	got, err := state.Keep(base(), 0, h)
	wantErr(t, "Keep", err, 0)
	if !slices.Equal(keys[:4], []int{1, 2, 3, 77}) {
		t.Errorf("Keep changed the keys: %v", keys[:4])
	}
	keys[0], keys[1], keys[2] = 7, 7, 7
	if k := got.Holds[2].Keys; !slices.Equal(k, []int{1, 2, 3}) {
		t.Errorf("Keep kept the keys: %v", k)
	}
	spoil(got)
	if !slices.Equal(keys[:4], []int{7, 7, 7, 77}) {
		t.Errorf("a change of what Keep told changed the keys: %v", keys[:4])
	}
	secret := secretOf(2)
	_, err = state.Settle(base(), 2, secret)
	wantErr(t, "Settle", err, 0)
	if string(secret) != string(secretOf(2)) {
		t.Errorf("Settle changed the secret: %q", secret)
	}
}

// Rule 3: a step that changes one list has the others as new memory, too.
func TestMemoryOthers(t *testing.T) {
	s := base()
	got, err := state.Move(s, 0, 1)
	wantErr(t, "Move", err, 0)
	s.Pays[0].Amount, s.Holds[0].Amount, s.Holds[1].Keys[0] = 99, 99, 99
	if got.Pays[0].Amount != 10 || got.Holds[0].Amount != 10 || got.Holds[1].Keys[0] != 0 {
		t.Errorf("Move: what it told has changed: %v", got)
	}
	got.Pays[1].Amount, got.Holds[1].Amount, got.Holds[0].Keys[0] = 98, 98, 98
	if s.Pays[1].Amount != 11 || s.Holds[1].Amount != 11 || s.Holds[0].Keys[0] != 0 {
		t.Errorf("Move: what was handed in has changed: %v", s)
	}
}

// Rule 4: what was asked ahead changes nothing.
func TestAskedAgain(t *testing.T) {
	for range 3 {
		for _, s := range goodStates() {
			checkOne(t, s.name, s.State, true)
			for _, c := range rightSteps() {
				try(t, s.State, c)
			}
		}
	}
}

// FuzzSteps: rows of steps, each of four bytes.
func FuzzSteps(f *testing.F) {
	f.Add(byte(0), []byte{0, 1, 2, 3, 1, 4, 5, 6, 2, 7, 8, 9, 3, 9, 9, 9})
	f.Add(byte(12), []byte{7, 1, 2, 3, 7, 1, 3, 3, 7, 1, 4, 3, 5, 0, 1, 200, 6, 3, 3, 3, 4, 0, 0, 250})
	f.Add(byte(19), []byte{2, 4, 0, 0, 2, 5, 6, 0, 3, 3, 0, 0, 6, 4, 0, 8, 5, 4, 4, 22})
	f.Fuzz(func(t *testing.T, first byte, b []byte) {
		l := goodStates()
		s := l[int(first)%len(l)].State
		for ; len(b) >= 4; b = b[4:] {
			if got, no := try(t, s, stepOf(s, int(b[0]), int(b[1]), int(b[2]), int(b[3]))); no == 0 {
				s = got
			}
		}
	})
}
