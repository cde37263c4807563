package build_test

import (
	"fmt"
	"slices"
	"testing"

	"bayou/api"
	"bayou/build"
	"bayou/cond"
	"bayou/ledger"
	"bayou/oath"
	"bayou/state"
	"bayou/tx"
)

// The height at which a channel is funded, and at which a commitment to it is done.
const (
	funded = 10
	shown  = 50
)

// signers are all sets of some parties: both sides of a channel, one who holds with them, and one who has nothing to do with it.
func signers() [][]int {
	var l [][]int
	for set := range 16 {
		var who []int
		for i, party := range []int{0, 1, 2, 4} {
			if set>>i&1 == 1 {
				who = append(who, party)
			}
		}
		l = append(l, who)
	}
	return l
}

// holdsAll tells whether all of some are among others.
func holdsAll(of, some []int) bool {
	return !slices.ContainsFunc(some, func(n int) bool { return !slices.Contains(of, n) })
}

// book is a book in which some signed a transaction.
func book(t *testing.T, x tx.Tx, who ...int) *oath.Book {
	t.Helper()
	b := oath.New()
	for _, party := range who {
		wantErr(t, "Sign", b.Sign(party, tx.ID(x)), 0)
	}
	return b
}

// done is a ledger with a transaction done that some signed, and the fee.
func done(t *testing.T, what string, l *ledger.Ledger, x tx.Tx, height int, no api.Errno, who ...int) (*ledger.Ledger, int) {
	t.Helper()
	l = l.Clone()
	ahead := l.Total()
	fee, err := l.Apply(x, height, book(t, x, who...))
	wantErr(t, what, err, no)
	if l.Total()+fee != ahead {
		t.Errorf("%s: %d and a fee of %d, want %d together", what, l.Total(), fee, ahead)
	}
	return l, fee
}

// wantSigners holds a transaction against a ledger for all sets of who signs: it is done, if all who must are among them, and with that fee.
func wantSigners(t *testing.T, what string, l *ledger.Ledger, x tx.Tx, height, fee int, must ...int) {
	t.Helper()
	for _, who := range signers() {
		no, want := api.ErrSign, 0
		if holdsAll(who, must) {
			no, want = 0, fee
		}
		if _, got := done(t, fmt.Sprint(what, " signed by ", who), l, x, height, no, who...); got != want {
			t.Errorf("%s signed by %v: a fee of %d, want %d", what, who, got, want)
		}
	}
}

// channel is a channel of the parties 4 and 1 to a state, funded on a ledger.
func channel(t *testing.T, s state.State, fee int) (*ledger.Ledger, build.Params) {
	t.Helper()
	amount := state.Total(s)
	l := ledger.New()
	wantErr(t, "Mint", l.Mint(point(1, 0), tx.Out{Amount: amount + 3, Cond: cond.All(4)}, 0), 0)
	x, err := build.Fund([]tx.Point{point(1, 0)}, [2]int{4, 1}, amount, nil)
	wantErr(t, "Fund", err, 0)
	l, _ = done(t, "Fund", l, x, funded, 0, 4)
	return l, build.Params{Point: tx.At(x, 0), Amount: amount, Keys: [2]int{4, 1}, Delay: 5, Fee: fee}
}

// waiting is a state of which each kind of output is made.
func waiting() state.State {
	p := []state.Pay{pay(2, 0, 20), pay(5, 1, 30), pay(6, 0, 12), pay(9, 1, 13)}
	p[0].After, p[1].After, p[2].After, p[3].After = 60, 52, 0, 60
	return state.State{Number: 3, Has: [2]int{60, 70}, Pays: p, Holds: []state.Hold{hold(1, 15, 1, 2, 4), hold(4, 25, 2)}}
}

// BU1: what Fund builds is done when those sign who own what it spends, and not else.
func TestDoneFund(t *testing.T) {
	l := ledger.New()
	wantErr(t, "Mint", l.Mint(point(1, 7), tx.Out{Amount: 70, Cond: cond.All(4)}, 0), 0)
	wantErr(t, "Mint", l.Mint(point(2, 0), tx.Out{Amount: 50, Cond: cond.All(1)}, 0), 0)
	x, err := build.Fund([]tx.Point{point(1, 7), point(2, 0)}, [2]int{4, 1}, 100, []tx.Out{{Amount: 15, Cond: cond.All(4)}})
	wantErr(t, "Fund", err, 0)
	wantSigners(t, "Fund", l, x, funded, 5, 1, 4)
	l, _ = done(t, "Fund", l, x, funded, 0, 1, 4)
	if e, ok := l.Get(tx.At(x, 0)); !ok || e.Out.Amount != 100 || !cond.Same(e.Out.Cond, cond.All(1, 4)) {
		t.Errorf("the channel's output: %v", e)
	}
	if l.Has(4) != 15 || l.Has(1) != 0 {
		t.Errorf("4 has %d, 1 has %d", l.Has(4), l.Has(1))
	}
}

// BU2, BU4: a commitment is done when both sides sign, and not else; it pays the fee, and what is too small.
func TestDoneCommit(t *testing.T) {
	for _, s := range []state.State{
		waiting(), {Has: [2]int{50, 50}}, {Has: [2]int{15, 9}}, {Has: [2]int{14, 10}}, {Has: [2]int{14, 9}, Holds: holds(8)}, {Has: [2]int{5, 0}, Pays: pays(8)},
		{Has: [2]int{5, maxAmount - 8}}, {Has: [2]int{maxAmount - 12, 9}},
	} {
		l, p := channel(t, s, 5)
		for owner := range 2 {
			x, err := build.Commit(p, s, owner, api.Hash{1})
			wantErr(t, "Commit", err, 0)
			wantSigners(t, fmt.Sprint("Commit of ", owner, " to ", s), l, x, shown, 5+tooSmall(p, s), 1, 4)
			l, _ := done(t, "Commit", l, x, shown, 0, 1, 4)
			for i, o := range x.Outs {
				if e, ok := l.Get(tx.At(x, i)); !ok || e.Out.Amount != o.Amount || !cond.Same(e.Out.Cond, o.Cond) || e.Height != shown {
					t.Errorf("the output %d of %s: %v", i, told(x), e)
				}
			}
			done(t, "Commit again", l, x, shown, api.ErrSpent, 1, 4)
		}
	}
}

// need is what a branch of a commitment's output asks for, told by hand.
type need struct {
	keys   []int
	secret string
	height int
}

// needs are what the branches of an output ask for, by what it is for.
func needs(p build.Params, s state.State, owner int, at build.Place, secret string) []need {
	mine, yours := p.Keys[owner], p.Keys[1-owner]
	take := need{[]int{yours}, secret, shown}
	switch at.Kind {
	case build.Own:
		return []need{{[]int{mine}, "", shown + p.Delay}, take}
	case build.Other:
		return []need{{[]int{yours}, "", shown}}
	case build.Held:
		i := slices.IndexFunc(s.Holds, func(h state.Hold) bool { return h.ID == at.ID })
		return []need{{s.Holds[i].Keys, "", shown}}
	}
	i := slices.IndexFunc(s.Pays, func(x state.Pay) bool { return x.ID == at.ID })
	x := s.Pays[i]
	to, back := need{[]int{p.Keys[1-x.From]}, string(secretOf(x.ID)), shown}, need{[]int{p.Keys[x.From]}, "", max(shown, x.After)}
	if x.From == owner {
		back.height = max(back.height, shown+p.Delay)
	} else {
		to.height += p.Delay
	}
	return []need{to, back, take}
}

// BU2, BU3: each output of a commitment is claimed by each of its branches, when those sign who must, with the secret that it asks for, at its height, and not else.
func TestDoneUses(t *testing.T) {
	s := waiting()
	l, p := channel(t, s, 5)
	for owner := range 2 {
		x, err := build.Commit(p, s, owner, cond.Lock([]byte("revoked")))
		wantErr(t, "Commit", err, 0)
		l, _ := done(t, "Commit", l, x, shown, 0, 1, 4)
		places, err := build.Places(p, s, owner)
		wantErr(t, "Places", err, 0)
		if len(places) != 8 || len(x.Outs) != 8 {
			t.Fatalf("places %v of %s", places, told(x))
		}
		for i, at := range places {
			all := needs(p, s, owner, at, "revoked")
			for branch := range 4 {
				for _, secret := range []string{"", "revoked", string(secretOf(2)), string(secretOf(5)), string(secretOf(6)), string(secretOf(9)), "another"} {
					y, err := build.Claim(x, []build.Use{{Out: i, Branch: branch, Secret: []byte(secret)}}, 2, 1)
					wantErr(t, "Claim", err, 0)
					what := fmt.Sprintf("owner %d, %v by %d with %q", owner, at, branch, secret)
					if branch >= len(all) {
						done(t, what, l, y, 1000, api.ErrRange, 0, 1, 2, 4)
						continue
					}
					wantUse(t, what, l, y, secret, all[branch])
				}
			}
		}
	}
}

// wantUse holds a claim against a ledger, for all who may sign and heights around that which it needs.
func wantUse(t *testing.T, what string, l *ledger.Ledger, y tx.Tx, secret string, n need) {
	t.Helper()
	for _, who := range signers() {
		b := book(t, y, who...)
		for _, height := range []int{shown, max(shown, n.height-1), n.height, n.height + 1, 1000} {
			want := api.Errno(0)
			switch {
			case !holdsAll(who, n.keys):
				want = api.ErrSign
			case n.secret != "" && n.secret != secret:
				want = api.ErrHash
			case height < n.height:
				want = api.ErrEarly
			}
			fee, err := l.Check(y, height, b)
			wantErr(t, fmt.Sprintf("%s, signed by %v at %d", what, who, height), err, want)
			if err == nil && fee != 1 {
				t.Errorf("%s: a fee of %d", what, fee)
			}
		}
	}
}

// BU3: the other side takes all of a commitment but what is held, at once, by its own signature and the secret; the owner has nothing.
func TestDonePenalty(t *testing.T) {
	secret := []byte("revoked")
	for _, s := range []state.State{waiting(), {Has: [2]int{50, 60}}, {Has: [2]int{5, 60}}, {Has: [2]int{60, 0}}, {Has: [2]int{9, 3}, Pays: pays(8)}, {Has: [2]int{50, 60}, Pays: pays(4), Holds: holds(4)}} {
		l, p := channel(t, s, 5)
		for owner := range 2 {
			x, err := build.Commit(p, s, owner, cond.Lock(secret))
			wantErr(t, "Commit", err, 0)
			y, err := build.Penalty(p, s, owner, secret)
			wantErr(t, "Penalty", err, 0)
			done(t, "Penalty of what is not done", l, y, shown, api.ErrSpent, 1, 4)
			l, _ := done(t, "Commit", l, x, shown, 0, 1, 4)
			wantSigners(t, "Penalty", l, y, shown, 5, p.Keys[1-owner])
			other, err := build.Penalty(p, s, owner, []byte("another"))
			wantErr(t, "Penalty with another secret", err, 0)
			for i := range y.Ins {
				if len(y.Ins[i].Secret) > 0 { // an output under the lock: without one the secret is nothing to the commitment
					wrong := cloneTx(y)
					wrong.Ins[i].Secret = []byte("another")
					done(t, "a wrong secret", l, wrong, shown, api.ErrHash, 1, 4)
					done(t, "Penalty with another secret", l, other, shown, api.ErrSpent, 1, 4)
				}
			}

			l, _ = done(t, "Penalty", l, y, shown, 0, p.Keys[1-owner])
			if e, ok := l.Get(tx.At(y, 0)); !ok || l.Has(p.Keys[1-owner]) != e.Out.Amount || l.Has(p.Keys[owner]) != 0 {
				t.Errorf("the owner %d has %d, the other side %d", owner, l.Has(p.Keys[owner]), l.Has(p.Keys[1-owner]))
			}
			if got := len(l.Points()); got != len(s.Holds)+1 {
				t.Errorf("%d outputs are left, want %d held and one more", got, len(s.Holds))
			}
		}
	}
}

// BU3: Close is done when both sides sign, and not else; each has at once what it had, side 0 less the fee.
func TestDoneClose(t *testing.T) {
	for _, has := range [][2]int{{50, 60}, {15, 10}, {14, 10}, {15, 9}, {5, 60}, {maxAmount - 13, 10}} {
		s := state.State{Has: has}
		l, p := channel(t, s, 5)
		x, err := build.Close(p, s)
		wantErr(t, "Close", err, 0)
		wantSigners(t, fmt.Sprint("Close of ", has), l, x, shown, 5+tooSmall(p, s), 1, 4)
		l, _ = done(t, "Close", l, x, shown, 0, 1, 4)
		for side, want := range []int{has[0] - 5, has[1]} {
			if want < dust {
				want = 0
			}
			if got := l.Has(p.Keys[side]); got != want {
				t.Errorf("Close of %v: side %d has %d, want %d", has, side, got, want)
			}
		}
	}
}
