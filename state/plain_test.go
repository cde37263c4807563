package state_test

import (
	"errors"
	"fmt"
	"math"
	"math/big"
	"slices"
	"testing"

	"bayou/api"
	"bayou/blake"
	"bayou/state"
)

// The bounds, as the document tells them.
const (
	maxHeight = 1 << 40
	maxAmount = 1 << 50
	maxID     = 1 << 32
	parties   = 16
	slots     = 8
	dust      = 10
)

// is tells whether an error is the one of that number; 0: none.
func is(err error, want api.Errno) bool {
	var got api.Errno
	if want == 0 {
		return err == nil
	}
	return errors.As(err, &got) && got == want
}

// wantErr holds an error against the number that is asked for; 0: none.
func wantErr(t *testing.T, what string, err error, want api.Errno) {
	t.Helper()
	if !is(err, want) {
		t.Errorf("%s: %v, want %v", what, err, want)
	}
}

// wantState holds a state against the one that is asked for.
func wantState(t *testing.T, what string, got, want state.State) {
	t.Helper()
	if !same(got, want) {
		t.Errorf("%s: %v, want %v", what, got, want)
	}
}

// secretOf is the secret of a payment of that ID.
func secretOf(id int) []byte { return fmt.Appendf(nil, "the secret of %d", id) }

// pay is a payment that may be, if its numbers may.
func pay(id, from, amount int) state.Pay {
	return state.Pay{ID: id, From: from, Amount: amount, After: 7, Lock: blake.Sum(secretOf(id))}
}

// hold is a hold that may be, if its numbers may.
func hold(id, amount int, keys ...int) state.Hold {
	return state.Hold{ID: id, Amount: amount, Keys: keys}
}

// upTo are the numbers from 0 on, so many.
func upTo(n int) []int {
	l := make([]int, n)
	for i := range l {
		l[i] = i
	}
	return l
}

// pays are payments of 10 and more with the IDs 2, 4, 6 and so on.
func pays(n int) []state.Pay {
	var l []state.Pay
	for i := range n {
		l = append(l, pay(2*i+2, i%2, dust+i))
	}
	return l
}

// holds are holds of 10 and more with the IDs 2, 4, 6 and so on.
func holds(n int) []state.Hold {
	var l []state.Hold
	for i := range n {
		l = append(l, hold(2*i+2, dust+i, upTo(i+1)...))
	}
	return l
}

// clone is a state apart.
func clone(s state.State) state.State {
	s.Pays = slices.Clone(s.Pays)
	s.Holds = slices.Clone(s.Holds)
	for i := range s.Holds {
		s.Holds[i].Keys = slices.Clone(s.Holds[i].Keys)
	}
	return s
}

// same tells whether two states are the same one; nil is the empty list.
func same(a, b state.State) bool {
	return a.Number == b.Number && a.Has == b.Has && slices.Equal(a.Pays, b.Pays) && slices.EqualFunc(a.Holds, b.Holds, func(x, y state.Hold) bool {
		return x.ID == y.ID && x.Amount == y.Amount && slices.Equal(x.Keys, y.Keys)
	})
}

// isZero tells whether there is nothing of a state.
func isZero(s state.State) bool {
	return s.Number == 0 && s.Has == [2]int{} && len(s.Pays) == 0 && len(s.Holds) == 0
}

// from tells whether a number is from one to another.
func from(least, n, most int) bool { return least <= n && n <= most }

// all is what is in a state, as a number that has no bound.
func all(s state.State) *big.Int {
	sum := new(big.Int)
	add := func(n int) { sum.Add(sum, big.NewInt(int64(n))) }
	add(s.Has[0])
	add(s.Has[1])
	for _, p := range s.Pays {
		add(p.Amount)
	}
	for _, h := range s.Holds {
		add(h.Amount)
	}
	return sum
}

// payMayBe tells whether a payment may be in a state, by the words of the chapter.
func payMayBe(p state.Pay) bool {
	return from(0, p.ID, maxID) && (p.From == 0 || p.From == 1) && from(dust, p.Amount, maxAmount) && from(0, p.After, maxHeight) && p.Lock != api.Hash{}
}

// holdMayBe tells whether a hold may be in a state, by the words of the chapter.
func holdMayBe(h state.Hold) bool {
	if !from(0, h.ID, maxID) || !from(dust, h.Amount, maxAmount) || !from(1, len(h.Keys), parties) {
		return false
	}
	for i, key := range h.Keys {
		if !from(0, key, parties-1) || i > 0 && h.Keys[i-1] >= key {
			return false
		}
	}
	return true
}

// mayBe tells whether a state may be, by the words of the chapter.
func mayBe(s state.State) bool {
	if !from(0, s.Number, maxHeight) || !from(0, s.Has[0], maxAmount) || !from(0, s.Has[1], maxAmount) || len(s.Pays)+len(s.Holds) > slots {
		return false
	}
	for i, p := range s.Pays {
		if !payMayBe(p) || i > 0 && s.Pays[i-1].ID >= p.ID {
			return false
		}
	}
	for i, h := range s.Holds {
		if !holdMayBe(h) || i > 0 && s.Holds[i-1].ID >= h.ID {
			return false
		}
	}
	return all(s).Cmp(big.NewInt(maxAmount)) <= 0
}

// step is a call that changes a state, with its arguments, and what it must answer of a state that may be and can go on.
type step struct {
	name string
	do   func(s state.State) (state.State, error)
	want func(s state.State) (state.State, api.Errno)
	more int // what it brings from outside
}

// move is a call of Move.
func move(side, amount int) step {
	return step{
		fmt.Sprintf("Move(%d, %d)", side, amount),
		func(s state.State) (state.State, error) { return state.Move(s, side, amount) },
		func(s state.State) (state.State, api.Errno) {
			switch {
			case side != 0 && side != 1:
				return s, api.ErrParty
			case amount <= 0:
				return s, api.ErrDust
			case s.Has[side] < amount:
				return s, api.ErrFunds
			}
			s.Has[side], s.Has[1-side] = s.Has[side]-amount, s.Has[1-side]+amount
			return s, 0
		}, 0,
	}
}

// add is a call of Add.
func add(p state.Pay) step {
	return step{
		fmt.Sprintf("Add(%d %d %d %d %x)", p.ID, p.From, p.Amount, p.After, p.Lock[:2]),
		func(s state.State) (state.State, error) { return state.Add(s, p) },
		func(s state.State) (state.State, api.Errno) {
			switch {
			case p.From != 0 && p.From != 1:
				return s, api.ErrParty
			case p.Amount < dust:
				return s, api.ErrDust
			case !payMayBe(p):
				return s, api.ErrArg
			case payAt(s, p.ID) >= 0:
				return s, api.ErrTwice
			case len(s.Pays)+len(s.Holds) == slots:
				return s, api.ErrSlot
			case s.Has[p.From] < p.Amount:
				return s, api.ErrFunds
			}
			s.Has[p.From] -= p.Amount
			s.Pays = append(s.Pays, p)
			slices.SortFunc(s.Pays, func(a, b state.Pay) int { return a.ID - b.ID })
			return s, 0
		}, 0,
	}
}

// settle is a call of Settle.
func settle(id int, secret []byte) step {
	return step{
		fmt.Sprintf("Settle(%d, %q)", id, secret[:min(len(secret), 40)]),
		func(s state.State) (state.State, error) { return state.Settle(s, id, secret) },
		func(s state.State) (state.State, api.Errno) {
			i := payAt(s, id)
			if i < 0 {
				return s, api.ErrNone
			}
			if s.Pays[i].Lock != blake.Sum(secret) {
				return s, api.ErrHash
			}
			s.Has[1-s.Pays[i].From] += s.Pays[i].Amount
			s.Pays = append(s.Pays[:i], s.Pays[i+1:]...)
			return s, 0
		}, 0,
	}
}

// fail is a call of Fail.
func fail(id int) step {
	return step{
		fmt.Sprintf("Fail(%d)", id),
		func(s state.State) (state.State, error) { return state.Fail(s, id) },
		func(s state.State) (state.State, api.Errno) {
			i := payAt(s, id)
			if i < 0 {
				return s, api.ErrNone
			}
			s.Has[s.Pays[i].From] += s.Pays[i].Amount
			s.Pays = append(s.Pays[:i], s.Pays[i+1:]...)
			return s, 0
		}, 0,
	}
}

// resize is a call of Resize. Numbers without a bound are held here, where ints would wrap round.
func resize(side, by int) step {
	return step{
		fmt.Sprintf("Resize(%d, %d)", side, by),
		func(s state.State) (state.State, error) { return state.Resize(s, side, by) },
		func(s state.State) (state.State, api.Errno) {
			if side != 0 && side != 1 {
				return s, api.ErrParty
			}
			has, sum := big.NewInt(int64(s.Has[side])), all(s)
			if has.Add(has, big.NewInt(int64(by))).Sign() < 0 {
				return s, api.ErrFunds
			}
			if sum.Add(sum, big.NewInt(int64(by))).Cmp(big.NewInt(maxAmount)) > 0 {
				return s, api.ErrOver
			}
			s.Has[side] = int(has.Int64())
			return s, 0
		}, by,
	}
}

// keep is a call of Keep.
func keep(side int, h state.Hold) step {
	return step{
		fmt.Sprintf("Keep(%d, %d %d %v)", side, h.ID, h.Amount, h.Keys),
		func(s state.State) (state.State, error) { return state.Keep(s, side, h) },
		func(s state.State) (state.State, api.Errno) {
			switch {
			case side != 0 && side != 1:
				return s, api.ErrParty
			case h.Amount < dust:
				return s, api.ErrDust
			case !holdMayBe(h):
				return s, api.ErrArg
			case holdAt(s, h.ID) >= 0:
				return s, api.ErrTwice
			case len(s.Pays)+len(s.Holds) == slots:
				return s, api.ErrSlot
			case s.Has[side] < h.Amount:
				return s, api.ErrFunds
			}
			s.Has[side] -= h.Amount
			s.Holds = append(s.Holds, h)
			slices.SortFunc(s.Holds, func(a, b state.Hold) int { return a.ID - b.ID })
			return s, 0
		}, 0,
	}
}

// free is a call of Free.
func free(id, first int) step {
	return step{
		fmt.Sprintf("Free(%d, %d)", id, first),
		func(s state.State) (state.State, error) { return state.Free(s, id, first) },
		func(s state.State) (state.State, api.Errno) {
			i := holdAt(s, id)
			if i < 0 {
				return s, api.ErrNone
			}
			amount := s.Holds[i].Amount
			if !from(0, first, amount) {
				return s, api.ErrFunds
			}
			s.Has[0], s.Has[1] = s.Has[0]+first, s.Has[1]+amount-first
			s.Holds = append(s.Holds[:i], s.Holds[i+1:]...)
			return s, 0
		}, 0,
	}
}

// payAt is the place of a payment, or -1.
func payAt(s state.State, id int) int {
	return slices.IndexFunc(s.Pays, func(p state.Pay) bool { return p.ID == id })
}

// holdAt is the place of a hold, or -1.
func holdAt(s state.State, id int) int {
	return slices.IndexFunc(s.Holds, func(h state.Hold) bool { return h.ID == id })
}

// expect is what a step must answer of a state: what all answer first of all, the zero state beside an error, and a Number that is one more.
func expect(s state.State, c step) (state.State, api.Errno) {
	if !mayBe(s) || s.Number == maxHeight {
		return state.State{}, api.ErrArg
	}
	n, no := c.want(clone(s))
	if no != 0 {
		return state.State{}, no
	}
	n.Number++
	return n, 0
}

// try holds a step against what it must answer (ST1 to ST3), and against ST5; it answers what the step did.
func try(t *testing.T, s state.State, c step) (state.State, api.Errno) {
	t.Helper()
	ahead := clone(s)
	got, err := c.do(s)
	want, no := expect(ahead, c)
	if !is(err, no) || !same(got, want) {
		t.Errorf("%s of %v: %v, %v, want %v, %v", c.name, ahead, got, err, want, no)
	}
	if !same(s, ahead) {
		t.Errorf("%s of %v: what was handed in was changed: %v", c.name, ahead, s)
	}
	if no == 0 && !mayBe(got) {
		t.Errorf("%s of %v: %v, which may not be", c.name, ahead, got)
	}
	sum := all(s)
	if no == 0 && sum.Add(sum, big.NewInt(int64(c.more))).Cmp(all(got)) != 0 {
		t.Errorf("%s of %v: %v has %v together, want %v", c.name, ahead, got, all(got), sum)
	}
	return got, no
}

// named is a state with a name.
type named struct {
	name string
	state.State
}

// goodStates are states that may be, the bounds among them.
func goodStates() []named {
	two := func(a, b int) [2]int { return [2]int{a, b} }
	return []named{
		{"the zero one", state.State{}},
		{"the example's", state.State{Has: two(50, 50)}},
		{"side 0 alone", state.State{Number: 3, Has: two(40, 0)}},
		{"side 1 alone", state.State{Number: 4, Has: two(0, 40)}},
		{"one below the last number", state.State{Number: maxHeight - 1, Has: two(20, 30), Pays: pays(1), Holds: holds(1)}},
		{"all on side 0", state.State{Has: two(maxAmount, 0)}},
		{"all on side 1", state.State{Has: two(0, maxAmount)}},
		{"all on both", state.State{Has: two(maxAmount/2, maxAmount/2)}},
		{"all in a payment", state.State{Pays: []state.Pay{pay(maxID, 1, maxAmount)}}},
		{"all in a hold", state.State{Holds: []state.Hold{hold(0, maxAmount, upTo(parties)...)}}},
		{"all in all", state.State{Has: two(20, maxAmount-20-3*dust-3), Pays: pays(2), Holds: []state.Hold{hold(5, 12, 3)}}},
		{"all in all but one", state.State{Has: two(20, maxAmount-21-3*dust-3), Pays: pays(2), Holds: []state.Hold{hold(5, 12, 3)}}},
		{"payments and holds", state.State{Number: 9, Has: two(100, 200), Pays: pays(3), Holds: holds(3)}},
		{"the first and the last ID", state.State{Has: two(30, 30), Pays: []state.Pay{pay(0, 0, 10), pay(maxID, 1, 11)}, Holds: []state.Hold{hold(0, 12, 0), hold(maxID, 13, 15)}}},
		{"seven payments", state.State{Has: two(50, 60), Pays: pays(7)}},
		{"seven holds", state.State{Has: two(50, 60), Holds: holds(7)}},
		{"seven of both", state.State{Has: two(50, 60), Pays: pays(3), Holds: holds(4)}},
		{"eight payments", state.State{Has: two(50, 60), Pays: pays(8)}},
		{"eight holds", state.State{Has: two(50, 60), Holds: holds(8)}},
		{"eight of both", state.State{Has: two(50, 60), Pays: pays(5), Holds: holds(3)}},
		{"eight and nobody has any", state.State{Pays: pays(4), Holds: holds(4)}},
		{"empty lists", state.State{Has: two(15, 15), Pays: []state.Pay{}, Holds: []state.Hold{}}},
	}
}

// base is a state that may be, to be changed.
func base() state.State {
	return state.State{Number: 5, Has: [2]int{100, 200}, Pays: pays(2), Holds: holds(2)}
}

// badStates are states that may not be, by what is wrong of them alone.
func badStates() []named {
	var l []named
	bad := func(name string, change func(s *state.State)) {
		s := base()
		change(&s)
		l = append(l, named{name, s})
	}
	beyond := func(name string, least, most int, at func(s *state.State) *int) {
		for _, n := range []int{least - 1, most + 1, math.MinInt, math.MaxInt, math.MinInt + 1} {
			bad(fmt.Sprint(name, " ", n), func(s *state.State) { *at(s) = n })
		}
	}
	beyond("Number", 0, maxHeight, func(s *state.State) *int { return &s.Number })
	beyond("side 0 of", 0, maxAmount, func(s *state.State) *int { return &s.Has[0] })
	beyond("side 1 of", 0, maxAmount, func(s *state.State) *int { return &s.Has[1] })
	for i := range 2 {
		beyond(fmt.Sprintf("payment %d: ID", i), 0, maxID, func(s *state.State) *int { return &s.Pays[i].ID })
		beyond(fmt.Sprintf("payment %d: From", i), 0, 1, func(s *state.State) *int { return &s.Pays[i].From })
		beyond(fmt.Sprintf("payment %d: Amount", i), dust, maxAmount, func(s *state.State) *int { return &s.Pays[i].Amount })
		beyond(fmt.Sprintf("payment %d: After", i), 0, maxHeight, func(s *state.State) *int { return &s.Pays[i].After })
		beyond(fmt.Sprintf("hold %d: ID", i), 0, maxID, func(s *state.State) *int { return &s.Holds[i].ID })
		beyond(fmt.Sprintf("hold %d: Amount", i), dust, maxAmount, func(s *state.State) *int { return &s.Holds[i].Amount })
		beyond(fmt.Sprintf("hold %d: a key", i), 0, parties-1, func(s *state.State) *int { return &s.Holds[i].Keys[i] })
		bad(fmt.Sprintf("payment %d: no lock", i), func(s *state.State) { s.Pays[i].Lock = api.Hash{} })
		bad(fmt.Sprintf("hold %d: no keys", i), func(s *state.State) { s.Holds[i].Keys = nil })
		bad(fmt.Sprintf("hold %d: an empty list of keys", i), func(s *state.State) { s.Holds[i].Keys = []int{} })
		bad(fmt.Sprintf("hold %d: a key twice", i), func(s *state.State) { s.Holds[i].Keys = []int{3, 3} })
		bad(fmt.Sprintf("hold %d: keys that fall", i), func(s *state.State) { s.Holds[i].Keys = []int{3, 2} })
		bad(fmt.Sprintf("hold %d: seventeen keys", i), func(s *state.State) { s.Holds[i].Keys = upTo(parties + 1) })
		bad(fmt.Sprintf("hold %d: seventeen keys, one twice", i), func(s *state.State) { s.Holds[i].Keys = append(upTo(parties), parties-1) })
	}
	bad("payments that stand still", func(s *state.State) { s.Pays[1].ID = s.Pays[0].ID })
	bad("payments that fall", func(s *state.State) { slices.Reverse(s.Pays) })
	bad("holds that stand still", func(s *state.State) { s.Holds[1].ID = s.Holds[0].ID })
	bad("holds that fall", func(s *state.State) { slices.Reverse(s.Holds) })
	bad("nine payments", func(s *state.State) { s.Pays, s.Holds = pays(9), nil })
	bad("nine holds", func(s *state.State) { s.Pays, s.Holds = nil, holds(9) })
	bad("nine of both", func(s *state.State) { s.Pays, s.Holds = pays(4), holds(5) })
	bad("eight of each", func(s *state.State) { s.Pays, s.Holds = pays(8), holds(8) })
	bad("one too much on side 0", func(s *state.State) { s.Has[0] = maxAmount - 241 })
	bad("one too much on side 1", func(s *state.State) { s.Has[1] = maxAmount - 141 })
	bad("too much on both", func(s *state.State) { *s = state.State{Has: [2]int{maxAmount, 1}} })
	bad("all on each side", func(s *state.State) { *s = state.State{Has: [2]int{maxAmount, maxAmount}} })
	bad("all in each", func(s *state.State) {
		s.Has = [2]int{maxAmount, maxAmount}
		s.Pays[0].Amount, s.Pays[1].Amount, s.Holds[0].Amount, s.Holds[1].Amount = maxAmount, maxAmount, maxAmount, maxAmount
	})
	bad("a sum that wraps round to 0", func(s *state.State) {
		*s = state.State{Has: [2]int{1 << 62, 1 << 62}, Pays: []state.Pay{pay(1, 0, 1<<62), pay(2, 0, 1<<62)}}
	})
	bad("a sum that wraps round to little", func(s *state.State) {
		*s = state.State{Has: [2]int{math.MaxInt, math.MaxInt}, Holds: []state.Hold{hold(1, 52, 1)}}
	})
	bad("less than nothing made up for", func(s *state.State) { s.Has = [2]int{-1, 301} })
	bad("very many payments", func(s *state.State) { s.Pays = make([]state.Pay, 1<<16) })
	bad("very many holds", func(s *state.State) { s.Holds = make([]state.Hold, 1<<16) })
	bad("very many keys", func(s *state.State) { s.Holds[0].Keys = make([]int, 1<<16) })
	return l
}
