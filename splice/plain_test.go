package splice_test

import (
	"errors"
	"fmt"
	"math"
	"math/big"
	"reflect"
	"slices"
	"strings"
	"testing"

	"bayou/api"
	"bayou/build"
	"bayou/cond"
	"bayou/splice"
	"bayou/state"
	"bayou/tx"
)

// The bounds, as the document tells them.
const (
	maxAmount = 1 << 50
	maxHeight = 1 << 40
	maxDelay  = 1 << 16
	maxIO     = 64
	dust      = 10
	most      = 30
)

// number is an error's number; 0: none.
func number(t *testing.T, err error) api.Errno {
	t.Helper()
	var no api.Errno
	if err != nil && !errors.As(err, &no) {
		t.Errorf("an error without a number: %v", err)
	}
	return no
}

// wantErr holds an error against the number that is asked for; 0: none.
func wantErr(t *testing.T, what string, err error, want api.Errno) {
	t.Helper()
	if number(t, err) != want {
		t.Errorf("%s: %v, want %d", what, err, int(want))
	}
}

// want holds an answer, and its error, against those that are asked for.
func want[T any](t *testing.T, what string, got T, err error, wanted T, no api.Errno) {
	t.Helper()
	wantErr(t, what, err, no)
	if a, b := fmt.Sprint(got), fmt.Sprint(wanted); a != b {
		t.Errorf("%s: %s, want %s", what, a, b)
	}
}

// sumText is a sum as text, without the noughts at its end.
func sumText(h api.Hash) string { return fmt.Sprintf("%x", strings.TrimRight(string(h[:]), "\x00")) }

// told is all of a transaction as text; what is nought in a branch is left out.
func told(x tx.Tx) string {
	b := &strings.Builder{}
	fmt.Fprintf(b, "lock %d\n", x.Lock)
	for _, in := range x.Ins {
		fmt.Fprintf(b, "in %s:%d by %d %q\n", sumText(in.Point.Tx), in.Point.N, in.Branch, in.Secret)
	}
	for _, o := range x.Outs {
		fmt.Fprintf(b, "out %d", o.Amount)
		for _, by := range o.Cond.Branches {
			fmt.Fprintf(b, " | %v", by.Keys)
			if (by.Lock != api.Hash{}) {
				fmt.Fprintf(b, " lock %s", sumText(by.Lock))
			}
			if by.After != 0 {
				fmt.Fprintf(b, " after %d", by.After)
			}
			if by.Older != 0 {
				fmt.Fprintf(b, " older %d", by.Older)
			}
		}
		fmt.Fprintln(b)
	}
	return b.String()
}

// point is a point whose sum begins with a byte.
func point(x byte, n int) tx.Point { return tx.Point{Tx: api.Hash{x}, N: n} }

// coin is a coin of such a point.
func coin(x byte, n, amount int) splice.Coin { return splice.Coin{Point: point(x, n), Amount: amount} }

// coins are coins of points of their own, that begin with a byte, of some amounts.
func coins(x byte, amounts ...int) []splice.Coin {
	var l []splice.Coin
	for i, n := range amounts {
		c := coin(x, i%maxIO, n)
		c.Point.Tx[1], c.Point.Tx[2] = byte(i/maxIO), byte(i/maxIO>>8)
		l = append(l, c)
	}
	return l
}

// out is an output of which each branch asks for some keys alone.
func out(amount int, keys ...[]int) tx.Out {
	o := tx.Out{Amount: amount}
	for _, k := range keys {
		o.Cond.Branches = append(o.Cond.Branches, cond.Branch{Keys: k})
	}
	return o
}

// outs are outputs of 1 of some amounts.
func outs(amounts ...int) []tx.Out {
	var l []tx.Out
	for _, n := range amounts {
		l = append(l, out(n, []int{1}))
	}
	return l
}

// many is an amount, so often.
func many(n, amount int) []int { return slices.Repeat([]int{amount}, n) }

// upTo are the numbers from 0 on, so many.
func upTo(n int) []int {
	l := make([]int, n)
	for i := range l {
		l[i] = i
	}
	return l
}

// pay is a payment that may be, if its numbers may.
func pay(id, from, amount int) state.Pay {
	return state.Pay{ID: id, From: from, Amount: amount, After: 100 + id, Lock: api.Hash{1, byte(id)}}
}

// hold is a hold that may be, if its numbers may.
func hold(id, amount int, keys ...int) state.Hold {
	return state.Hold{ID: id, Amount: amount, Keys: keys}
}

// cloneState is a state apart.
func cloneState(s state.State) state.State {
	s.Pays, s.Holds = slices.Clone(s.Pays), slices.Clone(s.Holds)
	for i := range s.Holds {
		s.Holds[i].Keys = slices.Clone(s.Holds[i].Keys)
	}
	return s
}

// cloneOut is an output apart.
func cloneOut(o tx.Out) tx.Out {
	o.Cond.Branches = slices.Clone(o.Cond.Branches)
	for i := range o.Cond.Branches {
		o.Cond.Branches[i].Keys = slices.Clone(o.Cond.Branches[i].Keys)
	}
	return o
}

// cloneDeal is a deal apart.
func cloneDeal(d splice.Deal) splice.Deal {
	d.State = cloneState(d.State)
	for side := range 2 {
		d.Ins[side], d.Outs[side] = slices.Clone(d.Ins[side]), slices.Clone(d.Outs[side])
		for i, o := range d.Outs[side] {
			d.Outs[side][i] = cloneOut(o)
		}
	}
	return d
}

// bigOf is a number that can't wrap round.
func bigOf(n int) *big.Int { return big.NewInt(int64(n)) }

// above tells whether a number is above another one.
func above(n *big.Int, most int) bool { return n.Cmp(bigOf(most)) > 0 }

// plainSide is what Bring, Take and Close answer of a side ahead of all else.
func plainSide(d splice.Deal, side int) api.Errno {
	if side != 0 && side != 1 {
		return api.ErrParty
	}
	if d.Ready[side] {
		return api.ErrState
	}
	return 0
}

// plainNew is what New must answer, by the words of SP1.
func plainNew(t *testing.T, p build.Params, s state.State) (splice.Deal, api.Errno) {
	t.Helper()
	if no := number(t, build.Check(p, s)); no != 0 {
		return splice.Deal{}, no
	}
	return splice.Deal{Params: p, State: s}, 0
}

// plainBring is what Bring must answer, by the words of SP1.
func plainBring(d splice.Deal, side int, c splice.Coin) (splice.Deal, api.Errno) {
	if no := plainSide(d, side); no != 0 {
		return splice.Deal{}, no
	}
	if len(d.Ins[side]) >= most {
		return splice.Deal{}, api.ErrSlot
	}
	spent := []tx.Point{d.Params.Point}
	for _, x := range slices.Concat(d.Ins[0], d.Ins[1]) {
		spent = append(spent, x.Point)
	}
	if slices.Contains(spent, c.Point) {
		return splice.Deal{}, api.ErrTwice
	}
	if c.Amount < dust {
		return splice.Deal{}, api.ErrDust
	}
	if c.Amount > maxAmount {
		return splice.Deal{}, api.ErrOver
	}
	d = cloneDeal(d)
	d.Ins[side] = append(d.Ins[side], c)
	return d, 0
}

// plainTake is what Take must answer, by the words of SP1.
func plainTake(t *testing.T, d splice.Deal, side int, o tx.Out) (splice.Deal, api.Errno) {
	t.Helper()
	if no := plainSide(d, side); no != 0 {
		return splice.Deal{}, no
	}
	if len(d.Outs[side]) >= most {
		return splice.Deal{}, api.ErrSlot
	}
	alone := tx.Tx{Ins: []tx.In{{Point: tx.Point{Tx: api.Hash{}, N: 0}}}, Outs: []tx.Out{o}}
	if no := number(t, tx.Check(alone)); no != 0 {
		return splice.Deal{}, no
	}
	d = cloneDeal(d)
	d.Outs[side] = append(d.Outs[side], o)
	return d, 0
}

// plainClose is what Close must answer, by the words of SP1.
func plainClose(d splice.Deal, side int) (splice.Deal, api.Errno) {
	if no := plainSide(d, side); no != 0 {
		return splice.Deal{}, no
	}
	d.Ready[side] = true
	return d, 0
}

// plainGain is what a side gains, however much that is, by the words of SP2.
func plainGain(d splice.Deal, side int) (*big.Int, api.Errno) {
	if side != 0 && side != 1 {
		return bigOf(0), api.ErrParty
	}
	brings, takes := bigOf(0), bigOf(0)
	for _, c := range d.Ins[side] {
		brings.Add(brings, bigOf(c.Amount))
	}
	for _, o := range d.Outs[side] {
		takes.Add(takes, bigOf(o.Amount))
	}
	if above(brings, maxAmount) || above(takes, maxAmount) {
		return bigOf(0), api.ErrOver
	}
	return brings.Sub(brings, takes), 0
}

// inInt is a number as an int: as near as can be.
func inInt(n *big.Int) int {
	switch {
	case n.IsInt64():
		return int(n.Int64())
	case n.Sign() < 0:
		return math.MinInt
	}
	return math.MaxInt
}

// plainResize is state.Resize's number, of a number and of what a side has and all have together behind it.
func plainResize(n int, has, all *big.Int) api.Errno {
	switch {
	case n >= maxHeight:
		return api.ErrArg
	case has.Sign() < 0:
		return api.ErrFunds
	case above(all, maxAmount):
		return api.ErrOver
	}
	return 0
}

// plainState is the new state, or the error ahead of it.
func plainState(t *testing.T, d splice.Deal) (state.State, api.Errno) {
	t.Helper()
	if !d.Ready[0] || !d.Ready[1] {
		return state.State{}, api.ErrState
	}
	if no := number(t, build.Check(d.Params, d.State)); no != 0 {
		return state.State{}, no
	}
	s, all := d.State, bigOf(d.Params.Amount)
	var gains [2]*big.Int
	for side := range 2 {
		gain, no := plainGain(d, side)
		if no != 0 {
			return state.State{}, no
		}
		gains[side] = gain
	}
	gains[0].Sub(gains[0], bigOf(d.Params.Fee))
	for side, gain := range gains {
		has := new(big.Int).Add(bigOf(s.Has[side]), gain)
		all.Add(all, gain)
		if no := plainResize(s.Number+side, has, all); no != 0 {
			return state.State{}, no
		}
		s.Has[side] = int(has.Int64())
	}
	s.Number++
	return s, 0
}

// all is what is in a channel, added up.
func all(s state.State) int {
	n := s.Has[0] + s.Has[1]
	for _, p := range s.Pays {
		n += p.Amount
	}
	for _, h := range s.Holds {
		n += h.Amount
	}
	return n
}

// built is what Build answers.
type built struct {
	t tx.Tx
	p build.Params
	s state.State
}

// buildOf is what Build answers of a deal, as one.
func buildOf(d splice.Deal) (built, error) {
	t, p, s, err := splice.Build(d)
	return built{t, p, s}, err
}

// plainBuild is what Build must answer, by the words of SP2.
func plainBuild(t *testing.T, d splice.Deal) (built, api.Errno) {
	t.Helper()
	s, no := plainState(t, d)
	if no != 0 {
		return built{}, no
	}
	both := []int{min(d.Params.Keys[0], d.Params.Keys[1]), max(d.Params.Keys[0], d.Params.Keys[1])}
	x := tx.Tx{Ins: []tx.In{{Point: d.Params.Point}}, Outs: []tx.Out{out(all(s), both)}}
	for side := range 2 {
		for _, c := range d.Ins[side] {
			x.Ins = append(x.Ins, tx.In{Point: c.Point})
		}
		x.Outs = append(x.Outs, d.Outs[side]...)
	}
	if no := number(t, tx.Check(x)); no != 0 {
		return built{}, no
	}
	if s.Has[0] < d.Params.Fee {
		return built{}, api.ErrFee
	}
	p := d.Params
	p.Point, p.Amount = tx.Point{Tx: tx.ID(x)}, all(s)
	return built{x, p, s}, 0
}

// wantWhole holds what is spent against what is paid out and the fee, and what each side has against what it had and its gain (SP3).
func wantWhole(t *testing.T, what string, d splice.Deal, got built) {
	t.Helper()
	spent, paid := d.Params.Amount, d.Params.Fee
	for side := range 2 {
		gain := 0
		for _, c := range d.Ins[side] {
			spent += c.Amount
			gain += c.Amount
		}
		for _, o := range d.Outs[side] {
			gain -= o.Amount
		}
		if side == 0 {
			gain -= d.Params.Fee
		}
		if got.s.Has[side] != d.State.Has[side]+gain {
			t.Errorf("%s: the side %d has %d, had %d, and gains %d", what, side, got.s.Has[side], d.State.Has[side], gain)
		}
	}
	for _, o := range got.t.Outs {
		paid += o.Amount
	}
	if spent != paid || got.p.Amount != got.t.Outs[0].Amount || state.Total(got.s) != got.p.Amount {
		t.Errorf("%s: %d spent, %d paid out with the fee, a channel of %d", what, spent, paid, got.p.Amount)
	}
	if !reflect.DeepEqual(append([]state.Pay{}, got.s.Pays...), append([]state.Pay{}, d.State.Pays...)) || fmt.Sprint(got.s.Holds) != fmt.Sprint(d.State.Holds) {
		t.Errorf("%s: payments and holds are not what they were: %v, ahead %v", what, got.s, d.State)
	}
	wantErr(t, what+": tx.Check", tx.Check(got.t), 0)
	wantErr(t, what+": build.Check", build.Check(got.p, got.s), 0)
}

// scene is what the calls are given.
type scene struct {
	what string
	d    splice.Deal
	side int
	c    splice.Coin
	o    tx.Out
}

// clone is a scene apart.
func (s scene) clone() scene {
	s.d, s.o = cloneDeal(s.d), cloneOut(s.o)
	return s
}

// try holds all calls against what they must answer (SP1 to SP3), and what was handed in against what it was.
func (s scene) try(t *testing.T) {
	t.Helper()
	ahead := s.clone()
	d, err := splice.New(s.d.Params, s.d.State)
	wanted, no := plainNew(t, s.d.Params, s.d.State)
	want(t, s.what+": New", d, err, wanted, no)
	d, err = splice.Bring(s.d, s.side, s.c)
	wanted, no = plainBring(s.d, s.side, s.c)
	want(t, s.what+": Bring", d, err, wanted, no)
	d, err = splice.Take(s.d, s.side, s.o)
	wanted, no = plainTake(t, s.d, s.side, s.o)
	want(t, s.what+": Take", d, err, wanted, no)
	d, err = splice.Close(s.d, s.side)
	wanted, no = plainClose(s.d, s.side)
	want(t, s.what+": Close", d, err, wanted, no)
	for _, side := range []int{0, 1, s.side} {
		gain, err := splice.Gain(s.d, side)
		n, no := plainGain(s.d, side)
		want(t, fmt.Sprint(s.what, ": Gain of ", side), gain, err, inInt(n), no)
	}
	s.tryBuild(t)
	if !reflect.DeepEqual(s, ahead) {
		t.Errorf("%s: what was handed in was changed: %v, ahead %v", s.what, s, ahead)
	}
}

// tryBuild holds Build against what it must answer.
func (s scene) tryBuild(t *testing.T) {
	t.Helper()
	got, err := buildOf(s.d)
	wanted, no := plainBuild(t, s.d)
	want(t, s.what+": Build", got, err, wanted, no)
	if err == nil {
		wantWhole(t, s.what+": Build", s.d, got)
	}
}

// params are those of a channel of the parties 7 and 3 to a state.
func params(s state.State, fee int) build.Params {
	return build.Params{Point: point(9, 3), Amount: all(s), Keys: [2]int{7, 3}, Delay: 5, Fee: fee}
}

// full is a state of 200 in which payments wait, and something is held.
func full() state.State {
	return state.State{
		Number: 11,
		Has:    [2]int{50, 60},
		Pays:   []state.Pay{pay(2, 0, 20), pay(5, 1, 30)},
		Holds:  []state.Hold{hold(1, 15, 3, 7, 9), hold(4, 25, 0)},
	}
}

// base is a scene that all calls but Build let by: side 0 gains 38, side 1 14, of a channel that has a fee of 5.
func base() scene {
	rich := out(12, []int{1})
	rich.Cond.Branches = append(rich.Cond.Branches, cond.Branch{Keys: []int{1, 4}, Lock: api.Hash{8}, After: 9, Older: 10})
	return scene{
		what: "base",
		d: splice.Deal{
			Params: params(full(), 5),
			State:  full(),
			Ins:    [2][]splice.Coin{{coin(1, 0, 20), coin(2, 63, 30)}, {coin(3, 1, 40)}},
			Outs:   [2][]tx.Out{{rich}, {out(15, []int{1}, []int{2, 5}), out(11, []int{2})}},
		},
		c: coin(4, 2, 25),
		o: out(13, []int{3}, []int{0, 15}),
	}
}

// closed is a scene whose deal Build lets by.
func closed() scene {
	s := base()
	s.what, s.d.Ready = "closed", [2]bool{true, true}
	return s
}

// fault is what is wrong of what a call is given: the rank of its error among the call's, and what it changes, as two faults of one thing can't be at once.
type fault struct {
	what, thing string
	rank        int
	no          api.Errno
	do          func(s *scene)
}

// faults are faults that are gathered.
type faults []fault

func (l *faults) add(rank int, no api.Errno, thing, what string, do func(s *scene)) {
	*l = append(*l, fault{what, thing, rank, no, do})
}

// numbers adds a fault for each of some numbers.
func (l *faults) numbers(rank int, no api.Errno, thing string, at func(s *scene) *int, numbers ...int) {
	for _, n := range numbers {
		l.add(rank, no, thing, fmt.Sprint(thing, " ", n), func(s *scene) { *at(s) = n })
	}
}

// each goes over all faults alone, and over all two at once, of which the one ahead is told; all calls of what is faulty are held against what they must answer, too.
func (l faults) each(t *testing.T, fresh func() scene, try func(s scene, no api.Errno)) {
	t.Helper()
	changed := func(no api.Errno, all ...fault) {
		s := fresh()
		for _, x := range all {
			x.do(&s)
			s.what += ": " + x.what
		}
		s.try(t)
		try(s, no)
	}
	for i, a := range l {
		changed(a.no, a)
		for _, b := range l[i+1:] {
			if a.thing == b.thing {
				continue
			}
			first := a
			if b.rank < a.rank {
				first = b
			}
			changed(first.no, a, b)
		}
	}
}
