package build_test

import (
	"errors"
	"fmt"
	"math/big"
	"reflect"
	"slices"
	"strings"
	"testing"

	"bayou/api"
	"bayou/build"
	"bayou/cond"
	"bayou/state"
	"bayou/tx"
)

// The bounds, as the document tells them.
const (
	maxAmount = 1 << 50
	maxHeight = 1 << 40
	maxDelay  = 1 << 16
	maxIO     = 64
	parties   = 16
	slots     = 8
	dust      = 10
)

// number is an error's number; 0: none.
func number(t *testing.T, err error) api.Errno {
	t.Helper()
	var no api.Errno
	if err != nil && !errors.As(err, &no) {
		t.Errorf("an error without a number: %v", err)
	}
	return no
}

// wantErr holds an error against the number that is asked for; 0: none.
func wantErr(t *testing.T, what string, err error, want api.Errno) {
	t.Helper()
	if number(t, err) != want {
		t.Errorf("%s: %v, want %d", what, err, int(want))
	}
}

// wantTx holds an answer against the one that is asked for.
func wantTx(t *testing.T, what string, got tx.Tx, err error, want tx.Tx, no api.Errno) {
	t.Helper()
	wantErr(t, what, err, no)
	if told(got) != told(want) {
		t.Errorf("%s:\n%swant\n%s", what, told(got), told(want))
	}
}

// wantText holds an answer against one that is written by hand.
func wantText(t *testing.T, what string, got tx.Tx, err error, lines ...string) {
	t.Helper()
	wantErr(t, what, err, 0)
	if want := strings.Join(lines, "\n") + "\n"; told(got) != want {
		t.Errorf("%s:\n%swant\n%s", what, told(got), want)
	}
}

// sumText is a sum as text, without the noughts at its end.
func sumText(h api.Hash) string { return fmt.Sprintf("%x", strings.TrimRight(string(h[:]), "\x00")) }

// told is all of a transaction as text; what is nought in a branch is left out.
func told(x tx.Tx) string {
	b := &strings.Builder{}
	fmt.Fprintf(b, "lock %d\n", x.Lock)
	for _, in := range x.Ins {
		fmt.Fprintf(b, "in %s:%d by %d %q\n", sumText(in.Point.Tx), in.Point.N, in.Branch, in.Secret)
	}
	for _, o := range x.Outs {
		fmt.Fprintf(b, "out %d", o.Amount)
		for _, by := range o.Cond.Branches {
			fmt.Fprintf(b, " | %v", by.Keys)
			if (by.Lock != api.Hash{}) {
				fmt.Fprintf(b, " lock %s", sumText(by.Lock))
			}
			if by.After != 0 {
				fmt.Fprintf(b, " after %d", by.After)
			}
			if by.Older != 0 {
				fmt.Fprintf(b, " older %d", by.Older)
			}
		}
		fmt.Fprintln(b)
	}
	return b.String()
}

// secretOf is what opens a payment of that ID.
func secretOf(id int) []byte { return fmt.Appendf(nil, "the secret of %d", id) }

// point is a point whose sum begins with a byte.
func point(x byte, n int) tx.Point { return tx.Point{Tx: api.Hash{x}, N: n} }

// pay is a payment that may be, if its numbers may.
func pay(id, from, amount int) state.Pay {
	return state.Pay{ID: id, From: from, Amount: amount, After: 100 + id, Lock: cond.Lock(secretOf(id))}
}

// hold is a hold that may be, if its numbers may.
func hold(id, amount int, keys ...int) state.Hold {
	return state.Hold{ID: id, Amount: amount, Keys: keys}
}

// upTo are the numbers from 0 on, so many.
func upTo(n int) []int {
	l := make([]int, n)
	for i := range l {
		l[i] = i
	}
	return l
}

// pays are payments of 10 and more, from either side, with the IDs 2, 4, 6 and so on.
func pays(n int) []state.Pay {
	var l []state.Pay
	for i := range n {
		l = append(l, pay(2*i+2, i/2%2, dust+i))
	}
	return l
}

// holds are holds of 10 and more with the IDs 1, 2, 3 and so on.
func holds(n int) []state.Hold {
	var l []state.Hold
	for i := range n {
		l = append(l, hold(i+1, dust+2*i, upTo(i+1)...))
	}
	return l
}

// cloneState is a state apart.
func cloneState(s state.State) state.State {
	s.Pays = slices.Clone(s.Pays)
	s.Holds = slices.Clone(s.Holds)
	for i := range s.Holds {
		s.Holds[i].Keys = slices.Clone(s.Holds[i].Keys)
	}
	return s
}

// cloneTx is a transaction apart.
func cloneTx(x tx.Tx) tx.Tx {
	x.Ins = slices.Clone(x.Ins)
	for i := range x.Ins {
		x.Ins[i].Secret = slices.Clone(x.Ins[i].Secret)
	}
	x.Outs = cloneOuts(x.Outs)
	return x
}

// cloneOuts are outputs apart.
func cloneOuts(l []tx.Out) []tx.Out {
	l = slices.Clone(l)
	for i := range l {
		l[i].Cond.Branches = slices.Clone(l[i].Cond.Branches)
		for j := range l[i].Cond.Branches {
			l[i].Cond.Branches[j].Keys = slices.Clone(l[i].Cond.Branches[j].Keys)
		}
	}
	return l
}

// cloneUses are uses apart.
func cloneUses(l []build.Use) []build.Use {
	l = slices.Clone(l)
	for i := range l {
		l[i].Secret = slices.Clone(l[i].Secret)
	}
	return l
}

// plainCheck is Check's number, by the words of BU1.
func plainCheck(p build.Params, s state.State) api.Errno {
	if state.Check(s) != nil || p.Delay < 1 || p.Delay > maxDelay || p.Fee < 0 || p.Fee > maxAmount {
		return api.ErrArg
	}
	if p.Keys[0] < 0 || p.Keys[0] > 15 || p.Keys[1] < 0 || p.Keys[1] > 15 || p.Keys[0] == p.Keys[1] {
		return api.ErrParty
	}
	sum := s.Has[0] + s.Has[1]
	for _, x := range s.Pays {
		sum += x.Amount
	}
	for _, x := range s.Holds {
		sum += x.Amount
	}
	if sum != p.Amount {
		return api.ErrFunds
	}
	if s.Has[0]-p.Fee < 0 {
		return api.ErrFee
	}
	return 0
}

// mayBe is a transaction, or tx.Check's number of it.
func mayBe(t *testing.T, x tx.Tx) (tx.Tx, api.Errno) {
	t.Helper()
	if no := number(t, tx.Check(x)); no != 0 {
		return tx.Tx{}, no
	}
	return x, 0
}

// key is a branch of one key.
func key(k int) cond.Branch { return cond.Branch{Keys: []int{k}} }

// out is an output of some branches.
func out(amount int, by ...cond.Branch) tx.Out {
	return tx.Out{Amount: amount, Cond: cond.Cond{Branches: by}}
}

// plainPaid is the output of a payment, told owner by owner and side by side.
func plainPaid(p build.Params, x state.Pay, owner int, lock api.Hash) tx.Out {
	zero, one := key(p.Keys[0]), key(p.Keys[1])
	to, back, take := one, zero, one
	if x.From == 1 {
		to, back = zero, one
	}
	if owner == 1 {
		take = zero
	}
	to.Lock, back.After, take.Lock = x.Lock, x.After, lock
	if owner == x.From {
		back.Older = p.Delay
	} else {
		to.Older = p.Delay
	}
	return out(x.Amount, to, back, take)
}

// plainOuts are the outputs of a commitment, and what each is for, by the words of BU2.
func plainOuts(p build.Params, s state.State, owner int, lock api.Hash) (outs []tx.Out, places []build.Place) {
	has := [2]int{s.Has[0] - p.Fee, s.Has[1]}
	mine, yours := key(p.Keys[owner]), key(p.Keys[1-owner])
	if has[owner] >= dust {
		wait, take := mine, yours
		wait.Older, take.Lock = p.Delay, lock
		outs, places = append(outs, out(has[owner], wait, take)), append(places, build.Place{Kind: 1})
	}
	if has[1-owner] >= dust {
		outs, places = append(outs, out(has[1-owner], yours)), append(places, build.Place{Kind: 2})
	}
	for _, x := range s.Pays {
		outs, places = append(outs, plainPaid(p, x, owner, lock)), append(places, build.Place{Kind: 3, ID: x.ID})
	}
	for _, x := range s.Holds {
		outs, places = append(outs, out(x.Amount, cond.Branch{Keys: x.Keys})), append(places, build.Place{Kind: 4, ID: x.ID})
	}
	return outs, places
}

// plainCommit is what Commit must answer.
func plainCommit(t *testing.T, p build.Params, s state.State, owner int, lock api.Hash) (tx.Tx, api.Errno) {
	t.Helper()
	if no := plainCheck(p, s); no != 0 {
		return tx.Tx{}, no
	}
	if owner != 0 && owner != 1 || lock == (api.Hash{}) {
		return tx.Tx{}, api.ErrArg
	}
	outs, _ := plainOuts(p, s, owner, lock)
	return mayBe(t, tx.Tx{Ins: []tx.In{{Point: p.Point}}, Outs: outs})
}

// plainPlaces is what Places must answer.
func plainPlaces(p build.Params, s state.State, owner int) ([]build.Place, api.Errno) {
	if no := plainCheck(p, s); no != 0 {
		return nil, no
	}
	if owner != 0 && owner != 1 {
		return nil, api.ErrArg
	}
	_, places := plainOuts(p, s, owner, api.Hash{})
	return places, 0
}

// plainClaim is what Claim must answer; amounts are added up without a bound.
func plainClaim(t *testing.T, x tx.Tx, uses []build.Use, who, fee int) (tx.Tx, api.Errno) {
	t.Helper()
	if len(uses) == 0 || fee < 0 || fee > maxAmount {
		return tx.Tx{}, api.ErrArg
	}
	if who < 0 || who >= parties {
		return tx.Tx{}, api.ErrParty
	}
	sum, id := new(big.Int), tx.ID(x)
	var made tx.Tx
	for _, u := range uses {
		if u.Out < 0 || u.Out >= len(x.Outs) {
			return tx.Tx{}, api.ErrRange
		}
		sum.Add(sum, big.NewInt(int64(x.Outs[u.Out].Amount)))
		made.Ins = append(made.Ins, tx.In{Point: tx.Point{Tx: id, N: u.Out}, Branch: u.Branch, Secret: u.Secret})
	}
	if sum.Cmp(big.NewInt(maxAmount)) > 0 {
		return tx.Tx{}, api.ErrOver
	}
	if sum.Sign() < 0 {
		sum.SetInt64(-1) // as small as any other that an output can't have
	}
	made.Outs = []tx.Out{out(int(sum.Int64())-fee, key(who))}
	return mayBe(t, made)
}

// plainPenalty is what Penalty must answer.
func plainPenalty(t *testing.T, p build.Params, s state.State, owner int, secret []byte) (tx.Tx, api.Errno) {
	t.Helper()
	lock := cond.Lock(secret)
	x, no := plainCommit(t, p, s, owner, lock)
	if no != 0 {
		return tx.Tx{}, no
	}
	_, places := plainOuts(p, s, owner, lock)
	var uses []build.Use
	for i, at := range places {
		all := []build.Use{1: {Out: i, Branch: 1, Secret: secret}, 2: {Out: i}, 3: {Out: i, Branch: 2, Secret: secret}}
		if at.Kind < 4 {
			uses = append(uses, all[at.Kind])
		}
	}
	if len(uses) == 0 {
		return tx.Tx{}, api.ErrArg
	}
	return plainClaim(t, x, uses, p.Keys[1-owner], p.Fee)
}

// plainClose is what Close must answer.
func plainClose(t *testing.T, p build.Params, s state.State) (tx.Tx, api.Errno) {
	t.Helper()
	if no := plainCheck(p, s); no != 0 {
		return tx.Tx{}, no
	}
	if len(s.Pays)+len(s.Holds) > 0 {
		return tx.Tx{}, api.ErrState
	}
	made := tx.Tx{Ins: []tx.In{{Point: p.Point}}}
	if s.Has[0]-p.Fee >= dust {
		made.Outs = append(made.Outs, out(s.Has[0]-p.Fee, key(p.Keys[0])))
	}
	if s.Has[1] >= dust {
		made.Outs = append(made.Outs, out(s.Has[1], key(p.Keys[1])))
	}
	return mayBe(t, made)
}

// plainFund is what Fund must answer.
func plainFund(t *testing.T, points []tx.Point, keys [2]int, amount int, rest []tx.Out) (tx.Tx, api.Errno) {
	t.Helper()
	var made tx.Tx
	for _, p := range points {
		made.Ins = append(made.Ins, tx.In{Point: p})
	}
	both := []int{min(keys[0], keys[1]), max(keys[0], keys[1])}
	if keys[0] == keys[1] {
		both = both[:1]
	}
	made.Outs = append(append(made.Outs, out(amount, cond.Branch{Keys: both})), rest...)
	return mayBe(t, made)
}

// tooSmall is what a state's sides have that no output is made of, behind the fee.
func tooSmall(p build.Params, s state.State) int {
	sum := 0
	for _, n := range []int{s.Has[0] - p.Fee, s.Has[1]} {
		if n < dust {
			sum += n
		}
	}
	return sum
}

// wantWhole holds what a transaction pays out, with what is too small and the fee, against the channel's amount (BU4).
func wantWhole(t *testing.T, what string, x tx.Tx, p build.Params, s state.State) {
	t.Helper()
	sum := 0
	for _, o := range x.Outs {
		sum += o.Amount
	}
	if sum+tooSmall(p, s)+p.Fee != p.Amount {
		t.Errorf("%s: outputs of %d, too small %d, fee %d: together not %d", what, sum, tooSmall(p, s), p.Fee, p.Amount)
	}
}

// scene is what the calls of a channel are given.
type scene struct {
	what   string
	p      build.Params
	s      state.State
	owner  int
	lock   api.Hash
	secret []byte
}

// clone is a scene apart.
func (c scene) clone() scene {
	c.s, c.secret = cloneState(c.s), slices.Clone(c.secret)
	return c
}

// try holds all calls of a channel against what they must answer (BU1 to BU4), and what was handed in against what it was.
func (c scene) try(t *testing.T) {
	t.Helper()
	ahead := c.clone()
	wantErr(t, c.what+": Check", build.Check(c.p, c.s), plainCheck(c.p, c.s))

	got, err := build.Commit(c.p, c.s, c.owner, c.lock)
	want, no := plainCommit(t, c.p, c.s, c.owner, c.lock)
	wantTx(t, c.what+": Commit", got, err, want, no)
	if err == nil {
		wantWhole(t, c.what+": Commit", got, c.p, c.s)
	}

	places, err := build.Places(c.p, c.s, c.owner)
	list, no := plainPlaces(c.p, c.s, c.owner)
	wantErr(t, c.what+": Places", err, no)
	if !slices.Equal(places, list) {
		t.Errorf("%s: Places: %v, want %v", c.what, places, list)
	}

	got, err = build.Penalty(c.p, c.s, c.owner, c.secret)
	want, no = plainPenalty(t, c.p, c.s, c.owner, c.secret)
	wantTx(t, c.what+": Penalty", got, err, want, no)

	got, err = build.Close(c.p, c.s)
	want, no = plainClose(t, c.p, c.s)
	wantTx(t, c.what+": Close", got, err, want, no)
	if err == nil {
		wantWhole(t, c.what+": Close", got, c.p, c.s)
	}
	if !reflect.DeepEqual(c, ahead) {
		t.Errorf("%s: what was handed in was changed: %v, ahead %v", c.what, c, ahead)
	}
}

// base is a scene that all calls but Close let by: payments from either side, holds, and sides that have enough.
func base() scene {
	return scene{
		what: "base",
		p:    build.Params{Point: point(9, 3), Amount: 200, Keys: [2]int{7, 3}, Delay: 5, Fee: 5},
		s: state.State{
			Number: 11,
			Has:    [2]int{50, 60},
			Pays:   []state.Pay{{ID: 2, From: 0, Amount: 20, After: 100, Lock: api.Hash{1}}, {ID: 5, From: 1, Amount: 30, Lock: api.Hash{2}}},
			Holds:  []state.Hold{hold(1, 15, 3, 7, 9), hold(4, 25, 0)},
		},
		lock:   api.Hash{0xee},
		secret: []byte("s"),
	}
}

// plainBase is a scene that all calls let by: nothing waits, and nothing is held.
func plainBase() scene {
	c := base()
	c.what = "plain base"
	c.p.Amount, c.s.Pays, c.s.Holds = 110, nil, nil
	return c
}

// with is a scene of a state, whose amount is the state's.
func with(what string, s state.State, fee int) scene {
	c := base()
	c.what, c.s, c.p.Fee, c.p.Amount = what, s, fee, state.Total(s)
	return c
}

// edges are what sides have around Dust.
func edges() []int { return []int{0, 1, dust - 1, dust, dust + 1, 2*dust - 1, 2 * dust, 1000} }

// good are scenes that Check lets by: sides around Dust and around the fee, with what may wait and be held.
func good() []scene {
	var l []scene
	for _, fee := range []int{0, 1, 5, dust - 1, dust, dust + 1, 500} {
		for _, a := range edges() {
			for _, b := range edges() {
				for _, n := range [][2]int{{0, 0}, {1, 0}, {0, 1}, {4, 3}, {8, 0}, {0, 8}, {4, 4}} {
					s := state.State{Number: a + b, Has: [2]int{a + fee, b}, Pays: pays(n[0]), Holds: holds(n[1])}
					what := fmt.Sprintf("%d and %d, fee %d, %d payments, %d holds", a+fee, b, fee, n[0], n[1])
					for owner := range 2 {
						c := with(what, s, fee)
						c.owner = owner
						l = append(l, c)
					}
				}
			}
		}
	}
	return l
}
