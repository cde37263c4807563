package wire_test

import (
	"bytes"
	"errors"
	"fmt"
	"math"
	"slices"
	"testing"

	"bayou/api"
	"bayou/blake"
	"bayou/state"
	"bayou/wire"
)

// The bounds, and the kinds, as the document tells them.
const (
	maxHeight = 1 << 40
	maxAmount = 1 << 50
	maxID     = 1 << 32
	slots     = 8
	dust      = 10
	maxSecret = 64
	maxOp     = 256

	kindMove   = 1
	kindAdd    = 2
	kindSettle = 3
	kindFail   = 4
)

// is tells whether an error is the one of that number; 0: none.
func is(err error, want api.Errno) bool {
	var got api.Errno
	if want == 0 {
		return err == nil
	}
	return errors.As(err, &got) && got == want
}

// wantErr holds an error against the number that is asked for; 0: none.
func wantErr(t *testing.T, what string, err error, want api.Errno) {
	t.Helper()
	if !is(err, want) {
		t.Errorf("%s: %v, want %v", what, err, want)
	}
}

// wantState holds a state against the one that is asked for.
func wantState(t *testing.T, what string, got, want state.State) {
	t.Helper()
	if !same(got, want) {
		t.Errorf("%s: %v, want %v", what, got, want)
	}
}

// secretOf is the secret of a payment of that ID. Those of small IDs have the lengths that a message can and can't hold.
func secretOf(id int) []byte {
	switch id {
	case 2:
		return nil
	case 3:
		return bytes.Repeat([]byte{3}, maxSecret)
	case 4:
		return make([]byte, maxSecret+1)
	case 5:
		return bytes.Repeat([]byte{5}, 1<<16)
	}
	return fmt.Appendf(nil, "the secret of %d", id)
}

// pay is a payment that may be, if its numbers may.
func pay(id, from, amount int) state.Pay {
	return state.Pay{ID: id, From: from, Amount: amount, After: 7, Lock: blake.Sum(secretOf(id))}
}

// hold is a hold that may be, if its numbers may.
func hold(id, amount int, keys ...int) state.Hold {
	return state.Hold{ID: id, Amount: amount, Keys: keys}
}

// pays are payments of 10 and more, of both sides in turn, with the IDs 2, 3, 4 and so on.
func pays(n int) []state.Pay {
	var l []state.Pay
	for i := range n {
		l = append(l, pay(i+2, i%2, dust+i))
	}
	return l
}

// holds are holds of 10 and more, with the same IDs.
func holds(n int) []state.Hold {
	var l []state.Hold
	for i := range n {
		l = append(l, hold(i+2, dust+i, i, i+3))
	}
	return l
}

// doMove moves an amount.
func doMove(amount int) wire.Op { return wire.Op{Kind: kindMove, Amount: amount} }

// doAdd lays a payment.
func doAdd(p state.Pay) wire.Op { return wire.Op{Kind: kindAdd, Pay: p} }

// doSettle settles a payment.
func doSettle(id int, secret []byte) wire.Op {
	return wire.Op{Kind: kindSettle, ID: id, Secret: secret}
}

// doFail has a payment fail.
func doFail(id int) wire.Op { return wire.Op{Kind: kindFail, ID: id} }

// clone is a state apart.
func clone(s state.State) state.State {
	s.Pays = slices.Clone(s.Pays)
	s.Holds = slices.Clone(s.Holds)
	for i := range s.Holds {
		s.Holds[i].Keys = slices.Clone(s.Holds[i].Keys)
	}
	return s
}

// same tells whether two states are the same one; nil is the empty list.
func same(a, b state.State) bool {
	return a.Number == b.Number && a.Has == b.Has && slices.Equal(a.Pays, b.Pays) && slices.EqualFunc(a.Holds, b.Holds, func(x, y state.Hold) bool {
		return x.ID == y.ID && x.Amount == y.Amount && slices.Equal(x.Keys, y.Keys)
	})
}

// cloneOp is what is done, apart.
func cloneOp(o wire.Op) wire.Op {
	o.Secret = bytes.Clone(o.Secret)
	return o
}

// sameOp tells whether the same is done; nil is the empty list.
func sameOp(a, b wire.Op) bool {
	return a.Kind == b.Kind && a.Amount == b.Amount && a.ID == b.ID && a.Pay == b.Pay && bytes.Equal(a.Secret, b.Secret)
}

// cloneMsg is a message apart.
func cloneMsg(m wire.Msg) wire.Msg {
	m.Op, m.Secret = cloneOp(m.Op), bytes.Clone(m.Secret)
	return m
}

// sameMsg tells whether two messages are the same one; nil is the empty list.
func sameMsg(a, b wire.Msg) bool {
	return a.Kind == b.Kind && a.Number == b.Number && sameOp(a.Op, b.Op) && a.Lock == b.Lock && bytes.Equal(a.Secret, b.Secret)
}

// tell is what is done, as text that is short.
func tell(o wire.Op) string {
	p := o.Pay
	return fmt.Sprintf("kind %d of %d, ID %d, payment %d %d %d %d %x, secret %q of %d", o.Kind, o.Amount, o.ID, p.ID, p.From, p.Amount, p.After, p.Lock[:2], o.Secret[:min(len(o.Secret), 20)], len(o.Secret))
}

// from tells whether a number is from one to another.
func from(least, n, most int) bool { return least <= n && n <= most }

// payAt is the place of a payment, or -1.
func payAt(s state.State, id int) int {
	for i, p := range s.Pays {
		if p.ID == id {
			return i
		}
	}
	return -1
}

// total is what is in a state.
func total(s state.State) int {
	sum := s.Has[0] + s.Has[1]
	for _, p := range s.Pays {
		sum += p.Amount
	}
	for _, h := range s.Holds {
		sum += h.Amount
	}
	return sum
}

// fault is the error that Do must answer, by the words of chapters 13 and 15; 0: none. (That a state may be is layer 13's to say.)
func fault(s state.State, side int, o wire.Op) api.Errno {
	if state.Check(s) != nil || side != 0 && side != 1 {
		return api.ErrArg
	}
	switch o.Kind {
	case kindMove:
		return faultOfMove(s, side, o.Amount)
	case kindAdd:
		return faultOfAdd(s, side, o.Pay)
	case kindSettle, kindFail:
		return faultOfEnd(s, side, o)
	}
	return api.ErrArg
}

// faultOfMove is the error of a Move.
func faultOfMove(s state.State, side, amount int) api.Errno {
	switch {
	case s.Number == maxHeight:
		return api.ErrArg
	case amount <= 0:
		return api.ErrDust
	case amount > s.Has[side]:
		return api.ErrFunds
	}
	return 0
}

// faultOfAdd is the error of an Add.
func faultOfAdd(s state.State, side int, p state.Pay) api.Errno {
	switch {
	case p.From != side:
		return api.ErrParty
	case s.Number == maxHeight:
		return api.ErrArg
	case p.Amount < dust:
		return api.ErrDust
	case !from(0, p.ID, maxID) || p.Amount > maxAmount || !from(0, p.After, maxHeight) || p.Lock == api.Hash{}:
		return api.ErrArg
	case payAt(s, p.ID) >= 0:
		return api.ErrTwice
	case len(s.Pays)+len(s.Holds) == slots:
		return api.ErrSlot
	case p.Amount > s.Has[side]:
		return api.ErrFunds
	}
	return 0
}

// faultOfEnd is the error of a Settle or a Fail.
func faultOfEnd(s state.State, side int, o wire.Op) api.Errno {
	i := payAt(s, o.ID)
	switch {
	case i < 0:
		return api.ErrNone
	case s.Pays[i].From == side:
		return api.ErrParty
	case s.Number == maxHeight:
		return api.ErrArg
	case o.Kind == kindSettle && blake.Sum(o.Secret) != s.Pays[i].Lock:
		return api.ErrHash
	}
	return 0
}

// expect is what Do must answer.
func expect(s state.State, side int, o wire.Op) (state.State, api.Errno) {
	if no := fault(s, side, o); no != 0 {
		return state.State{}, no
	}
	s = clone(s)
	s.Number++
	other := 1 - side
	switch o.Kind {
	case kindMove:
		s.Has[side] -= o.Amount
		s.Has[other] += o.Amount
	case kindAdd:
		s.Has[side] -= o.Pay.Amount
		s.Pays = append(s.Pays, o.Pay)
		slices.SortFunc(s.Pays, func(a, b state.Pay) int { return a.ID - b.ID })
	case kindSettle:
		i := payAt(s, o.ID)
		s.Has[side] += s.Pays[i].Amount
		s.Pays = append(s.Pays[:i], s.Pays[i+1:]...)
	case kindFail:
		i := payAt(s, o.ID)
		s.Has[other] += s.Pays[i].Amount
		s.Pays = append(s.Pays[:i], s.Pays[i+1:]...)
	}
	return s, 0
}

// try holds Do against what it must answer (WI1), and against WI3; it answers what Do did.
func try(t *testing.T, s state.State, side int, o wire.Op) (state.State, api.Errno) {
	t.Helper()
	ahead, op := clone(s), cloneOp(o)
	got, err := wire.Do(s, side, o)
	want, no := expect(ahead, side, op)
	if !is(err, no) || !same(got, want) {
		t.Errorf("%v: side %d: %s: %v, %v, want %v, %v", ahead, side, tell(op), got, err, want, no)
	}
	if !same(s, ahead) || !sameOp(o, op) {
		t.Errorf("%v: side %d: %s: what was handed in was changed: %v, %s", ahead, side, tell(op), s, tell(o))
	}
	if err == nil {
		wantKept(t, fmt.Sprintf("%v: side %d: %s", ahead, side, tell(op)), ahead, got, side)
	}
	return got, no
}

// wantKept holds what a side has done against WI3: the other one has not less, and no payment of the side's own came back to it; nor did coins come or go.
func wantKept(t *testing.T, what string, ahead, behind state.State, side int) {
	t.Helper()
	wantErr(t, what+": Check", state.Check(behind), 0)
	if total(behind) != total(ahead) {
		t.Errorf("%s: %d together, want %d", what, total(behind), total(ahead))
	}
	if behind.Has[1-side] < ahead.Has[1-side] {
		t.Errorf("%s: the other side has %d, and had %d", what, behind.Has[1-side], ahead.Has[1-side])
	}
	for _, p := range ahead.Pays {
		if i := payAt(behind, p.ID); p.From == side && (i < 0 || behind.Pays[i] != p) {
			t.Errorf("%s: the side's own payment %d has not stayed", what, p.ID)
		}
	}
	if !slices.EqualFunc(ahead.Holds, behind.Holds, func(a, b state.Hold) bool {
		return a.ID == b.ID && a.Amount == b.Amount && slices.Equal(a.Keys, b.Keys)
	}) {
		t.Errorf("%s: the holds have not stayed", what)
	}
}

// named is a state with a name.
type named struct {
	name string
	state.State
}

// base is a state that may be, to be changed.
func base() state.State {
	return state.State{Number: 5, Has: [2]int{100, 200}, Pays: pays(3), Holds: holds(2)}
}

// goodStates are states that may be, the bounds among them.
func goodStates() []named {
	two := func(a, b int) [2]int { return [2]int{a, b} }
	return []named{
		{"the zero one", state.State{}},
		{"the example's", state.State{Has: two(50, 50)}},
		{"side 0 alone", state.State{Number: 3, Has: two(40, 0)}},
		{"side 1 alone", state.State{Number: 4, Has: two(0, 40)}},
		{"one below the last number", state.State{Number: maxHeight - 1, Has: two(20, 30), Pays: pays(2), Holds: holds(1)}},
		{"the last number", state.State{Number: maxHeight, Has: two(20, 30), Pays: pays(2), Holds: holds(1)}},
		{"all on side 0", state.State{Has: two(maxAmount, 0)}},
		{"all on side 1", state.State{Has: two(0, maxAmount)}},
		{"all on both", state.State{Has: two(maxAmount/2, maxAmount/2)}},
		{"all in a payment", state.State{Pays: []state.Pay{pay(maxID, 1, maxAmount)}}},
		{"all in a hold", state.State{Holds: []state.Hold{hold(0, maxAmount, 0, 15)}}},
		{"all in all", state.State{Has: two(20, maxAmount-20-2*dust-1-12), Pays: pays(2), Holds: []state.Hold{hold(5, 12, 3)}}},
		{"base", base()},
		{"the first and the last ID", state.State{Has: two(30, 30), Pays: []state.Pay{pay(0, 0, 10), pay(maxID, 1, 11)}, Holds: []state.Hold{hold(0, 12, 0), hold(maxID, 13, 15)}}},
		{"seven payments", state.State{Has: two(50, 60), Pays: pays(7)}},
		{"seven of both", state.State{Has: two(50, 60), Pays: pays(3), Holds: holds(4)}},
		{"eight payments", state.State{Has: two(50, 60), Pays: pays(8)}},
		{"eight holds", state.State{Has: two(50, 60), Holds: holds(8)}},
		{"eight of both", state.State{Has: two(50, 60), Pays: pays(5), Holds: holds(3)}},
		{"eight and nobody has any", state.State{Pays: pays(4), Holds: holds(4)}},
		{"empty lists", state.State{Has: two(15, 15), Pays: []state.Pay{}, Holds: []state.Hold{}}},
	}
}

// badStates are states that may not be, by what is wrong of them alone.
func badStates() []named {
	var l []named
	bad := func(name string, change func(s *state.State)) {
		s := base()
		change(&s)
		l = append(l, named{name, s})
	}
	bad("a number below 0", func(s *state.State) { s.Number = -1 })
	bad("a number beyond the last one", func(s *state.State) { s.Number = maxHeight + 1 })
	bad("side 0 below 0", func(s *state.State) { s.Has[0] = -1 })
	bad("side 1 below 0", func(s *state.State) { s.Has[1] = -1 })
	bad("the least on side 0", func(s *state.State) { s.Has[0] = math.MinInt })
	bad("too much on side 1", func(s *state.State) { s.Has[1] = maxAmount + 1 })
	bad("the most on both", func(s *state.State) { s.Has = [2]int{math.MaxInt, math.MaxInt} })
	bad("too much together", func(s *state.State) { s.Has = [2]int{maxAmount, 1} })
	bad("nine payments", func(s *state.State) { s.Pays, s.Holds = pays(9), nil })
	bad("nine holds", func(s *state.State) { s.Pays, s.Holds = nil, holds(9) })
	bad("nine of both", func(s *state.State) { s.Pays, s.Holds = pays(4), holds(5) })
	bad("payments that fall", func(s *state.State) { slices.Reverse(s.Pays) })
	bad("payments that stand still", func(s *state.State) { s.Pays[1].ID = s.Pays[0].ID })
	bad("holds that stand still", func(s *state.State) { s.Holds[1].ID = s.Holds[0].ID })
	bad("a payment's ID", func(s *state.State) { s.Pays[0].ID = -1 })
	bad("a payment from nobody", func(s *state.State) { s.Pays[2].From = 2 })
	bad("a payment from nobody below", func(s *state.State) { s.Pays[2].From = -1 })
	bad("a payment that is too small", func(s *state.State) { s.Pays[1].Amount = dust - 1 })
	bad("a payment's height", func(s *state.State) { s.Pays[1].After = maxHeight + 1 })
	bad("a payment without a lock", func(s *state.State) { s.Pays[1].Lock = api.Hash{} })
	bad("a hold that is too small", func(s *state.State) { s.Holds[1].Amount = dust - 1 })
	bad("a hold without keys", func(s *state.State) { s.Holds[1].Keys = nil })
	bad("a hold of somebody who is none", func(s *state.State) { s.Holds[1].Keys = []int{16} })
	return l
}

// edges are numbers at, and beyond, the bounds of ints and of what layer 1 lays in so many bytes.
func edges() []int {
	l := []int{math.MinInt, math.MinInt + 1, math.MaxInt - 1, math.MaxInt}
	for n := -3; n <= 12; n++ {
		l = append(l, n)
	}
	for wide := 8; wide < 63; wide += 8 {
		for _, n := range []int{1<<wide - 1, 1 << wide, 1<<wide + 1} {
			l = append(l, n, -n, -n-1)
		}
	}
	for _, n := range []int{maxHeight, maxAmount, maxID} {
		l = append(l, n-1, n, n+1, -n)
	}
	return l
}
