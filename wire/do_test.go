package wire_test

import (
	"bytes"
	"fmt"
	"math"
	"math/rand"
	"slices"
	"testing"

	"bayou/api"
	"bayou/blake"
	"bayou/state"
	"bayou/wire"
)

// The chapter's example, and the document's first one.
func TestExample(t *testing.T) {
	s, err := wire.Do(state.State{Has: [2]int{50, 50}}, 1, wire.Op{Kind: wire.Move, Amount: 20})
	wantErr(t, "Move", err, 0)
	wantState(t, "Move", s, state.State{Number: 1, Has: [2]int{70, 30}})
	s, err = wire.Do(state.State{Has: [2]int{500, 300}}, 0, wire.Op{Kind: wire.Move, Amount: 20})
	wantErr(t, "Move", err, 0)
	wantState(t, "Move", s, state.State{Number: 1, Has: [2]int{480, 320}})
}

// The kinds have their numbers, which are laid.
func TestKinds(t *testing.T) {
	if got := []int{wire.Move, wire.Add, wire.Settle, wire.Fail}; !slices.Equal(got, []int{1, 2, 3, 4}) {
		t.Errorf("the kinds of what is done: %v", got)
	}
	if got := []int{wire.Propose, wire.Agree, wire.Commit, wire.Done, wire.Refuse}; !slices.Equal(got, []int{1, 2, 3, 4, 5}) {
		t.Errorf("the kinds of messages: %v", got)
	}
}

// told is a row of what Do must answer, written out.
type told struct {
	name string
	s    state.State
	side int
	o    wire.Op
	no   api.Errno
	want state.State
}

// holdTold holds Do against rows that are written out; they are held against the plain rule, too.
func holdTold(t *testing.T, rows []told) {
	t.Helper()
	for _, x := range rows {
		got, err := wire.Do(x.s, x.side, x.o)
		wantErr(t, x.name, err, x.no)
		wantState(t, x.name, got, x.want)
		try(t, x.s, x.side, x.o)
	}
}

// WI1: Move of amounts at their bounds, by both sides.
func TestMove(t *testing.T) {
	s := state.State{Number: 3, Has: [2]int{50, 30}}
	to := func(a, b int) state.State { return state.State{Number: 4, Has: [2]int{a, b}} }
	none := state.State{}
	last := state.State{Number: maxHeight, Has: [2]int{50, 30}}
	rich := state.State{Has: [2]int{0, maxAmount}}
	holdTold(t, []told{
		{"one", s, 0, doMove(1), 0, to(49, 31)},
		{"one of side 1", s, 1, doMove(1), 0, to(51, 29)},
		{"all", s, 0, doMove(50), 0, to(0, 80)},
		{"all of side 1", s, 1, doMove(30), 0, to(80, 0)},
		{"one too many", s, 0, doMove(51), api.ErrFunds, none},
		{"one too many of side 1", s, 1, doMove(31), api.ErrFunds, none},
		{"none", s, 0, doMove(0), api.ErrDust, none},
		{"less than none", s, 0, doMove(-1), api.ErrDust, none},
		{"less than none, of side 1", s, 1, doMove(-50), api.ErrDust, none},
		{"the least", s, 0, doMove(math.MinInt), api.ErrDust, none},
		{"the most", s, 1, doMove(math.MaxInt), api.ErrFunds, none},
		{"behind the last number", last, 0, doMove(1), api.ErrArg, none},
		{"all there can be", rich, 1, doMove(maxAmount), 0, state.State{Number: 1, Has: [2]int{maxAmount, 0}}},
		{"more than there can be", rich, 1, doMove(maxAmount + 1), api.ErrFunds, none},
		{"of nothing", rich, 0, doMove(1), api.ErrFunds, none},
	})
}

// with is a payment with something changed.
func with(p state.Pay, change func(p *state.Pay)) state.Pay {
	change(&p)
	return p
}

// WI1: Add, by both sides.
func TestAdd(t *testing.T) {
	for side := range 2 {
		s := state.State{Number: 3, Has: [2]int{50, 50}, Pays: []state.Pay{pay(7, 1-side, 15)}, Holds: holds(1)}
		p := pay(9, side, 50)
		behind := clone(s)
		behind.Number, behind.Has[side], behind.Pays = 4, 0, []state.Pay{s.Pays[0], p}
		first := clone(behind)
		first.Pays = []state.Pay{pay(0, side, 50), s.Pays[0]}
		full, last, none := clone(s), clone(s), state.State{}
		full.Holds = holds(7)
		last.Number = maxHeight
		in := func(change func(p *state.Pay)) wire.Op { return doAdd(with(p, change)) }
		holdTold(t, []told{
			{"all", s, side, doAdd(p), 0, behind},
			{"all, ahead of another one", s, side, doAdd(pay(0, side, 50)), 0, first},
			{"the other side's", s, side, in(func(p *state.Pay) { p.From = 1 - side }), api.ErrParty, none},
			{"nobody's", s, side, in(func(p *state.Pay) { p.From = 2 }), api.ErrParty, none},
			{"nobody's below", s, side, in(func(p *state.Pay) { p.From = -1 }), api.ErrParty, none},
			{"too small", s, side, in(func(p *state.Pay) { p.Amount = dust - 1 }), api.ErrDust, none},
			{"less than none", s, side, in(func(p *state.Pay) { p.Amount = -50 }), api.ErrDust, none},
			{"an ID below 0", s, side, in(func(p *state.Pay) { p.ID = -1 }), api.ErrArg, none},
			{"an ID beyond the last one", s, side, in(func(p *state.Pay) { p.ID = maxID + 1 }), api.ErrArg, none},
			{"a height below 0", s, side, in(func(p *state.Pay) { p.After = -1 }), api.ErrArg, none},
			{"a height beyond the last one", s, side, in(func(p *state.Pay) { p.After = maxHeight + 1 }), api.ErrArg, none},
			{"no lock", s, side, in(func(p *state.Pay) { p.Lock = api.Hash{} }), api.ErrArg, none},
			{"more than there can be", s, side, in(func(p *state.Pay) { p.Amount = maxAmount + 1 }), api.ErrArg, none},
			{"there already", s, side, in(func(p *state.Pay) { p.ID = 7 }), api.ErrTwice, none},
			{"no place", full, side, doAdd(p), api.ErrSlot, none},
			{"one too many", s, side, in(func(p *state.Pay) { p.Amount = 51 }), api.ErrFunds, none},
			{"behind the last number", last, side, doAdd(p), api.ErrArg, none},
		})
	}
}

// WI1: Settle and Fail, by both sides.
func TestEnd(t *testing.T) {
	for side := range 2 {
		s := state.State{Number: 3, Has: [2]int{50, 60}, Pays: []state.Pay{pay(6, side, 15), pay(7, 1-side, 25), pay(8, 1-side, 35)}, Holds: holds(2)}
		behind := func(at, who int) state.State {
			n := clone(s)
			n.Number = 4
			n.Has[who] += n.Pays[at].Amount
			n.Pays = slices.Delete(n.Pays, at, at+1)
			return n
		}
		last, none := clone(s), state.State{}
		last.Number = maxHeight
		right := secretOf(7)
		holdTold(t, []told{
			{"settled", s, side, doSettle(7, right), 0, behind(1, side)},
			{"the last one settled", s, side, doSettle(8, secretOf(8)), 0, behind(2, side)},
			{"settled by its own side", s, 1 - side, doSettle(7, right), api.ErrParty, none},
			{"one's own settled", s, side, doSettle(6, secretOf(6)), api.ErrParty, none},
			{"settled by the other side", s, 1 - side, doSettle(6, secretOf(6)), 0, behind(0, 1-side)},
			{"no such one", s, side, doSettle(9, right), api.ErrNone, none},
			{"that of a hold", s, side, doSettle(2, secretOf(2)), api.ErrNone, none},
			{"an ID below 0", s, side, doSettle(-1, right), api.ErrNone, none},
			{"an ID beyond all", s, side, doSettle(math.MaxInt, right), api.ErrNone, none},
			{"another one's secret", s, side, doSettle(7, secretOf(8)), api.ErrHash, none},
			{"no secret", s, side, doSettle(7, nil), api.ErrHash, none},
			{"an empty secret", s, side, doSettle(7, []byte{}), api.ErrHash, none},
			{"a secret with more behind it", s, side, doSettle(7, append(right, 0)), api.ErrHash, none},
			{"a secret cut short", s, side, doSettle(7, right[:len(right)-1]), api.ErrHash, none},
			{"a secret too long", s, side, doSettle(7, make([]byte, maxSecret+1)), api.ErrHash, none},
			{"a very long secret", s, side, doSettle(7, make([]byte, 1<<20)), api.ErrHash, none},
			{"the lock itself", s, side, doSettle(7, s.Pays[1].Lock[:]), api.ErrHash, none},
			{"settled behind the last number", last, side, doSettle(7, right), api.ErrArg, none},
			{"failed", s, side, doFail(7), 0, behind(1, 1-side)},
			{"the last one failed", s, side, doFail(8), 0, behind(2, 1-side)},
			{"one's own failed", s, side, doFail(6), api.ErrParty, none},
			{"failed by its own side", s, 1 - side, doFail(7), api.ErrParty, none},
			{"failed by the other side", s, 1 - side, doFail(6), 0, behind(0, side)},
			{"no such one fails", s, side, doFail(9), api.ErrNone, none},
			{"that of a hold fails", s, side, doFail(3), api.ErrNone, none},
			{"an ID below 0 fails", s, side, doFail(-1), api.ErrNone, none},
			{"failed behind the last number", last, side, doFail(7), api.ErrArg, none},
		})
	}
}

// WI1: what opens a payment is its secret, however long: a message may not hold it, but what is done is not a message.
func TestSettleLengths(t *testing.T) {
	for n := range 70 {
		secret := bytes.Repeat([]byte{byte(n)}, n)
		p := pay(1, 0, 20)
		p.Lock = blake.Sum(secret)
		s, err := wire.Do(state.State{Pays: []state.Pay{p}}, 1, doSettle(1, secret))
		wantErr(t, fmt.Sprint("a secret of ", n), err, 0)
		wantState(t, fmt.Sprint("a secret of ", n), s, state.State{Number: 1, Has: [2]int{0, 20}})
	}
}

// opsOf are things that are done to a state, of all kinds, with numbers at the edges of what it has.
func opsOf(s state.State) []wire.Op {
	var l []wire.Op
	amounts := []int{math.MinInt, -1, 0, 1, dust - 1, dust, dust + 1, maxAmount, maxAmount + 1, math.MaxInt}
	for _, has := range s.Has {
		amounts = append(amounts, has-1, has, has+1)
	}
	for _, n := range amounts {
		l = append(l, doMove(n))
	}
	ids := []int{math.MinInt, -1, 0, 1, 4, maxID, maxID + 1, math.MaxInt}
	for _, p := range s.Pays {
		ids = append(ids, p.ID, p.ID+1)
	}
	for _, id := range ids {
		for who := -1; who <= 2; who++ {
			for _, n := range amounts {
				l = append(l, doAdd(pay(id, who, n)))
			}
			for _, after := range []int{math.MinInt, -1, 0, maxHeight, maxHeight + 1, math.MaxInt} {
				l = append(l, doAdd(with(pay(id, who, dust), func(p *state.Pay) { p.After = after })))
			}
			l = append(l, doAdd(with(pay(id, who, dust), func(p *state.Pay) { p.Lock = api.Hash{} })))
		}
		l = append(l, doFail(id), doSettle(id, secretOf(id)), doSettle(id, nil), doSettle(id, secretOf(id+1)), doSettle(id, append(secretOf(id), 0)))
	}
	return l
}

// WI1, WI3: all these, by whoever there is and is not, of all states, held against the plain rule.
func TestDoEach(t *testing.T) {
	seen := map[api.Errno]int{}
	for _, s := range goodStates() {
		wantErr(t, s.name+": Check", state.Check(s.State), 0)
		for _, o := range opsOf(s.State) {
			for _, side := range []int{-1, 0, 1, 2} {
				_, no := try(t, s.State, side, o)
				seen[no]++
			}
		}
	}
	for _, no := range []api.Errno{0, api.ErrArg, api.ErrNone, api.ErrParty, api.ErrDust, api.ErrTwice, api.ErrSlot, api.ErrFunds, api.ErrHash} {
		if seen[no] == 0 {
			t.Errorf("%v was never asked for", no)
		}
	}
}

// wantArg: Do answers ErrArg, and the zero state.
func wantArg(t *testing.T, what string, s state.State, side int, o wire.Op) {
	t.Helper()
	if got, err := wire.Do(s, side, o); !is(err, api.ErrArg) || !same(got, state.State{}) {
		t.Errorf("%s: side %d: %s: %v, %v, want %v", what, side, tell(o), got, err, api.ErrArg)
	}
}

// some are things that may be done to base by that side, one of each kind.
func some(side int) []wire.Op {
	mine, theirs := pay(9, side, 20), base().Pays[1-side]
	return []wire.Op{doMove(20), doAdd(mine), doSettle(theirs.ID, secretOf(theirs.ID)), doFail(theirs.ID)}
}

// WI1: states that may not be, whatever is done to them.
func TestDoMayNotBe(t *testing.T) {
	ops := slices.Concat(opsOf(base()), some(0), some(1))
	for _, s := range badStates() {
		wantErr(t, s.name+": Check", state.Check(s.State), api.ErrArg)
		for side := -1; side <= 2; side++ {
			for _, o := range ops {
				wantArg(t, s.name, s.State, side, o)
			}
		}
	}
}

// WI1: sides that are none.
func TestDoNoSide(t *testing.T) {
	for _, side := range edges() {
		for _, o := range slices.Concat(some(0), some(1)) {
			o.Pay.From = side // so that it is not this that is wrong
			if side != 0 && side != 1 {
				wantArg(t, "no side", base(), side, o)
			}
		}
	}
	for side := range 2 {
		for _, o := range some(side) {
			_, err := wire.Do(base(), side, o)
			wantErr(t, fmt.Sprintf("side %d: %s", side, tell(o)), err, 0)
		}
	}
}

// WI1: kinds that are none.
func TestDoNoKind(t *testing.T) {
	for _, kind := range edges() {
		for side := range 2 {
			for _, o := range some(side) {
				o.Kind = kind
				if !from(1, kind, 4) {
					wantArg(t, "no kind", base(), side, o)
				}
			}
		}
	}
	wantArg(t, "the zero op", base(), 0, wire.Op{})
}

// scene is what Do is given, to be made wrong.
type scene struct {
	state.State
	side int
	wire.Op
}

// wrong makes a scene wrong in one way.
type wrong struct {
	name string
	no   api.Errno
	make func(x *scene)
}

// wrongs are the ways in which a kind goes wrong, in the order of what Do must answer.
func wrongs(kind int) []wrong {
	l := []wrong{
		{"a state that may not be", api.ErrArg, func(x *scene) { x.Holds = []state.Hold{{}} }},
		{"no side", api.ErrArg, func(x *scene) { x.side += 2 }},
		{"no kind", api.ErrArg, func(x *scene) { x.Op.Kind = 5 }},
	}
	last := wrong{"the last number", api.ErrArg, func(x *scene) { x.Number = maxHeight }}
	poor := wrong{"too little", api.ErrFunds, func(x *scene) { x.Has = [2]int{} }}
	switch kind {
	case kindMove:
		return append(l, last, wrong{"too small", api.ErrDust, func(x *scene) { x.Op.Amount = 0 }}, poor)
	case kindAdd:
		return append(l,
			wrong{"the other side's", api.ErrParty, func(x *scene) { x.Op.Pay.From = 1 - x.Op.Pay.From }},
			last,
			wrong{"too small", api.ErrDust, func(x *scene) { x.Op.Pay.Amount = dust - 1 }},
			wrong{"may not be", api.ErrArg, func(x *scene) { x.Op.Pay.After = -1 }},
			wrong{"there already", api.ErrTwice, func(x *scene) { x.Op.Pay.ID = x.Pays[0].ID }},
			wrong{"no place", api.ErrSlot, func(x *scene) { x.Holds = holds(6) }},
			poor)
	}
	l = append(l,
		wrong{"no such payment", api.ErrNone, func(x *scene) { x.Op.ID = 77 }},
		wrong{"one's own", api.ErrParty, func(x *scene) { x.Pays[0].From, x.Pays[1].From = x.Pays[1].From, x.Pays[0].From }},
		last)
	if kind == kindSettle {
		l = append(l, wrong{"a wrong secret", api.ErrHash, func(x *scene) { x.Op.Secret = []byte("no") }})
	}
	return l
}

// WI1: each error alone, and each two of one kind at once: the one that comes first is told.
func TestDoOrder(t *testing.T) {
	for kind := kindMove; kind <= kindFail; kind++ {
		for side := range 2 {
			fresh := func() scene {
				s := state.State{Has: [2]int{100, 100}, Pays: pays(2)}
				return scene{s, side, some(side)[kind-1]}
			}
			x := fresh()
			_, no := try(t, x.State, x.side, x.Op)
			if no != 0 {
				t.Fatalf("kind %d, side %d: %v", kind, side, no)
			}
			l := wrongs(kind)
			for i, a := range l {
				for j, b := range l[i:] {
					x := fresh()
					b.make(&x)
					if j > 0 {
						a.make(&x)
					}
					what := fmt.Sprintf("kind %d, side %d: %s, %s", kind, side, a.name, b.name)
					got, err := wire.Do(x.State, x.side, x.Op)
					wantErr(t, what, err, a.no)
					wantState(t, what, got, state.State{})
				}
			}
		}
	}
}

// WI1: what a kind does not speak of changes nothing.
func TestDoOtherFields(t *testing.T) {
	for side := range 2 {
		for _, o := range some(side) {
			want, err := wire.Do(base(), side, o)
			wantErr(t, tell(o), err, 0)
			for _, n := range []int{math.MinInt, -1, 0, 2, 3, 77, math.MaxInt} {
				p := o
				if p.Kind != kindMove {
					p.Amount = n
				}
				if p.Kind != kindSettle && p.Kind != kindFail {
					p.ID = n
				}
				if p.Kind != kindAdd {
					p.Pay = state.Pay{ID: n, From: n, Amount: n, After: n, Lock: api.Hash{byte(n)}}
				}
				if p.Kind != kindSettle {
					p.Secret = make([]byte, n&127)
				}
				got, err := wire.Do(base(), side, p)
				wantErr(t, tell(p), err, 0)
				wantState(t, tell(p), got, want)
			}
		}
	}
}

// anyOp is something that is done, which often can be.
func anyOp(r *rand.Rand, s state.State, side int) wire.Op {
	id := r.Intn(12)
	if len(s.Pays) > 0 && r.Intn(3) > 0 {
		id = s.Pays[r.Intn(len(s.Pays))].ID
	}
	o := wire.Op{Kind: r.Intn(6), Amount: r.Intn(60) - 5, ID: id, Pay: pay(r.Intn(12), r.Intn(2), r.Intn(60)), Secret: secretOf(id)}
	if r.Intn(3) > 0 {
		o.Pay.From = side
	}
	if r.Intn(5) == 0 {
		o.Secret = secretOf(id + 1)
	}
	return o
}

// WI3: long rows of what both sides do. What a side has, with what waits for it or from it, is held against who did what.
func TestDoLong(t *testing.T) {
	done := map[int]int{}
	for seed := range 40 {
		r := rand.New(rand.NewSource(int64(seed)))
		s := state.State{Has: [2]int{r.Intn(300), r.Intn(300)}, Holds: holds(r.Intn(3))}
		sum := total(s)
		for range 500 {
			side := r.Intn(2)
			o := anyOp(r, s, side)
			n, no := try(t, s, side, o)
			if no != 0 {
				continue
			}
			done[o.Kind]++
			s = n
			if total(s) != sum {
				t.Fatalf("seed %d: %d together, want %d", seed, total(s), sum)
			}
		}
	}
	for kind := kindMove; kind <= kindFail; kind++ {
		if done[kind] < 100 {
			t.Errorf("kind %d was done %d times alone", kind, done[kind])
		}
	}
}

// reach are all states that a side alone comes to by steps of a few things.
func reach(s state.State, side, steps int, visit func(s state.State)) {
	visit(s)
	if steps == 0 {
		return
	}
	ops := []wire.Op{doMove(1), doMove(s.Has[side])}
	for id := range 5 {
		ops = append(ops, doAdd(pay(id, side, 12)), doAdd(pay(id, 1-side, 12)), doSettle(id, secretOf(id)), doFail(id))
	}
	for _, o := range ops {
		if n, err := wire.Do(s, side, o); err == nil {
			reach(n, side, steps-1, visit)
		}
	}
}

// WI3: whatever a side does alone, step behind step, the other one never has less, and no payment that the side laid comes back to it.
func TestDoAlone(t *testing.T) {
	first := state.State{Has: [2]int{40, 40}, Pays: []state.Pay{pay(1, 0, 10), pay(3, 1, 11)}, Holds: holds(1)}
	for side := range 2 {
		states := 0
		reach(first, side, 4, func(s state.State) {
			states++
			wantKept(t, fmt.Sprintf("side %d alone: %v", side, s), first, s, side)
			theirs := first.Pays[1-side].Amount
			if s.Has[side] > first.Has[side]+theirs {
				t.Errorf("side %d alone: %v: more than it had and waited for", side, s)
			}
		})
		if states < 100 {
			t.Errorf("side %d: %d states alone", side, states)
		}
	}
}

// Rule 4: what is answered hangs on what is given alone.
func TestDoAgain(t *testing.T) {
	for side := range 2 {
		for _, o := range opsOf(base()) {
			a, one := wire.Do(base(), side, o)
			wire.Do(base(), 1-side, doMove(5))
			b, two := wire.Do(base(), side, o)
			if !same(a, b) || one != two {
				t.Errorf("side %d: %s: %v, %v, and then %v, %v", side, tell(o), a, one, b, two)
			}
		}
	}
}

// Rule 3: nil and the empty list are the same.
func TestDoEmpty(t *testing.T) {
	p := pay(2, 0, 20)
	for _, secret := range [][]byte{nil, {}, make([]byte, 0, 9)} {
		for _, s := range []state.State{{Pays: []state.Pay{p}}, {Pays: []state.Pay{p}, Holds: []state.Hold{}}} {
			got, err := wire.Do(s, 1, doSettle(2, secret))
			wantErr(t, "Settle", err, 0)
			wantState(t, "Settle", got, state.State{Number: 1, Has: [2]int{0, 20}})
		}
	}
}

// FuzzDo: rows of any things done to any states that bytes tell.
func FuzzDo(f *testing.F) {
	for _, s := range goodStates() {
		f.Add(state.Encode(s.State), 1, kindMove, 20, 2, 0, 12, []byte("x"))
		f.Add(state.Encode(s.State), 0, kindAdd, 20, 2, 0, 12, []byte{})
		f.Add(state.Encode(s.State), 1, kindSettle, 20, 6, 0, 12, secretOf(6))
		f.Add(state.Encode(s.State), 0, kindFail, 20, 3, 0, 12, []byte{})
	}
	f.Fuzz(func(t *testing.T, b []byte, side, kind, amount, id, who, after int, secret []byte) {
		s, _ := state.Decode(b) // the zero one, if it is none
		p := state.Pay{ID: id, From: who, Amount: amount, After: after, Lock: blake.Sum(secret)}
		o := wire.Op{Kind: kind, Amount: amount, ID: id, Pay: p, Secret: secret}
		n, no := try(t, s, side, o)
		if no != 0 {
			return
		}
		o.Kind = kindSettle
		try(t, n, 1-side, o)
		o.Kind = kindFail
		try(t, n, 1-side, o)
		try(t, n, side, o)
	})
}
