package peer_test

import (
	"bytes"
	"fmt"
	"strings"
	"testing"

	"bayou/api"
	"bayou/blake"
	"bayou/build"
	"bayou/peer"
	"bayou/state"
	"bayou/tx"
	"bayou/wire"
)

// The seeds of the side that is looked at, and of the other one.
const (
	ownSeed   = "own"
	otherSeed = "other"
)

// paySecret is the secret of a payment of that ID.
func paySecret(id int) []byte { return fmt.Appendf(nil, "the secret of payment %d", id) }

// pay is a payment.
func pay(id, from, amount int) state.Pay {
	return state.Pay{ID: id, From: from, Amount: amount, After: 7, Lock: blake.Sum(paySecret(id))}
}

func move(amount int) wire.Op   { return wire.Op{Kind: kindMove, Amount: amount} }
func add(p state.Pay) wire.Op   { return wire.Op{Kind: kindAdd, Pay: p} }
func fail(id int) wire.Op       { return wire.Op{Kind: kindFail, ID: id} }
func settle(id int) wire.Op     { return settleBy(id, paySecret(id)) }
func theirPay(side int) int     { return 3 - side } // the payment that a side can settle
func theirBad(side int) wire.Op { return settleBy(theirPay(side), []byte("wrong")) }

// settleBy settles a payment by a secret.
func settleBy(id int, secret []byte) wire.Op {
	return wire.Op{Kind: kindSettle, ID: id, Secret: secret}
}

// config is a channel with a payment of each side, and a hold.
func config(side int) peer.Config {
	return peer.Config{
		Params: build.Params{Point: tx.Point{Tx: api.Hash{7}, N: 3}, Amount: 930, Keys: [2]int{9, 4}, Delay: 4, Fee: 5},
		Side:   side,
		Seed:   ownSeed,
		First: state.State{
			Has:   [2]int{500, 300},
			Pays:  []state.Pay{pay(2, 0, 40), pay(3, 1, 50)},
			Holds: []state.Hold{{ID: 1, Amount: 40, Keys: []int{1, 2}}},
		},
		Other: lockOf(otherSeed, 0),
	}
}

// smallConfig is a channel with so little that a commitment can have no output that is not too small.
func smallConfig(side int) peer.Config {
	c := config(side)
	c.Params.Amount, c.First = 23, state.State{Has: [2]int{18, 5}}
	return c
}

// junk is a move with all else that what is done has room for.
func junk(amount int) wire.Op {
	return wire.Op{Kind: kindMove, Amount: amount, ID: -5, Pay: pay(-1, 77, -9), Secret: bytes.Repeat([]byte{0}, 64)}
}

// doable are what a side can do at the begin.
func doable(side int) []wire.Op {
	return []wire.Op{move(20), add(pay(7, side, 30)), settle(theirPay(side)), fail(theirPay(side)), junk(3)}
}

// undoable are what it can't.
func undoable(side int) []wire.Op {
	return []wire.Op{
		{}, {Kind: -1}, {Kind: 5, Amount: 20}, move(0), move(-5), move(10000),
		add(pay(7, 1-side, 30)), add(pay(7, 2, 30)), add(pay(7, side, 9)), add(pay(2, side, 30)), add(pay(7, side, 10000)), add(pay(-1, side, 30)),
		theirBad(side), settle(theirPay(1 - side)), fail(theirPay(1 - side)), fail(99), settle(99),
	}
}

// nextOp is a move of the side, or of the other one, by which a scene comes to its number.
func nextOp(n int) wire.Op { return move(n + 1) }

// agreeMsg, commitMsg and doneMsg are what the other side rightly tells.
func (s *site) agreeMsg() wire.Msg {
	n := s.plain.n() + 1
	return wire.Msg{Kind: kindAgree, Number: n, Lock: lockOf(s.seed, n)}
}

func (s *site) commitMsg() wire.Msg {
	n := s.plain.n() + 1
	return wire.Msg{Kind: kindCommit, Number: n, Secret: secretOf(s.seed, n-1)}
}

func (s *site) doneMsg() wire.Msg {
	n := s.plain.n()
	return wire.Msg{Kind: kindDone, Number: n, Secret: secretOf(s.seed, n-1)}
}

// proposeMsg is what the other side rightly proposes.
func (s *site) proposeMsg(o wire.Op) wire.Msg {
	n := s.plain.n() + 1
	return wire.Msg{Kind: kindPropose, Number: n, Op: o, Lock: lockOf(s.seed, n)}
}

// commit has an idle side propose something, and commit to it.
func (s *site) commit(o wire.Op) {
	s.t.Helper()
	s.propose("a scene", o)
	s.give(s.plain.next())
	s.hear("a scene", s.agreeMsg())
}

// lead has an idle side do something.
func (s *site) lead(o wire.Op) {
	s.t.Helper()
	s.commit(o)
	s.hear("a scene", s.doneMsg())
}

// follow has the other side do something.
func (s *site) follow(o wire.Op) {
	s.t.Helper()
	s.hear("a scene", s.proposeMsg(o))
	s.give(s.plain.next())
	s.hear("a scene", s.commitMsg())
}

// turn has one of both do something, in turn.
func (s *site) turn() {
	s.t.Helper()
	if o := nextOp(s.plain.n()); s.plain.n()%2 == 0 {
		s.lead(o)
	} else {
		s.follow(o)
	}
}

// goTo brings an idle side to a number and a step.
func (s *site) goTo(n, step int) {
	s.t.Helper()
	for s.plain.n() < n-1 {
		s.turn()
	}
	o := nextOp(s.plain.n())
	switch {
	case step == committed:
		s.commit(o)
		return
	case s.plain.n() < n:
		s.turn()
	}
	switch step {
	case proposed:
		s.propose("a scene", move(20))
	case agreed:
		s.hear("a scene", s.proposeMsg(move(20)))
	}
}

// scene is a place at which a side can be.
type scene struct{ side, n, step int }

func (c scene) String() string {
	return fmt.Sprintf("side %d, %s, at %d", c.side, stepNames[c.step], c.n)
}

// scenes are places at which a side can be.
func scenes() []scene {
	var l []scene
	for side := range 2 {
		for n := range 4 {
			for step := idle; step <= committed; step++ {
				if step != committed || n > 0 {
					l = append(l, scene{side, n, step})
				}
			}
		}
	}
	return l
}

// at is a side at a scene.
func at(t *testing.T, c scene) *site {
	t.Helper()
	s := newSite(t, config(c.side), 80)
	s.goTo(c.n, c.step)
	if s.plain.n() != c.n || s.plain.step != c.step {
		t.Fatalf("%s: the scene is at %d, %s", c, s.plain.n(), stepNames[s.plain.step])
	}
	return s
}

// long is a text of so many bytes.
func long(n int) string { return strings.Repeat("x", n) }
