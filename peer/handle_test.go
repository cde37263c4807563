package peer_test

import (
	"fmt"
	"math"
	"slices"
	"testing"

	"bayou/api"
	"bayou/oath"
	"bayou/peer"
	"bayou/state"
	"bayou/tx"
	"bayou/wire"
)

// locks are next locks that the other side may tell: none, its own, another one, and the side's own.
func locks(s *site) []api.Hash {
	n := s.plain.n()
	return []api.Hash{{}, lockOf(s.seed, n+1), lockOf(s.seed, n), {31: 1}, lockOf(ownSeed, n+1)}
}

// secrets are secrets that the other side may tell: right and wrong ones, none, and longer ones.
func secrets(s *site) [][]byte {
	n := s.plain.n()
	right := secretOf(s.seed, n)
	return [][]byte{nil, right, secretOf(s.seed, n-1), secretOf(s.seed, n+1), secretOf(ownSeed, n), right[:31], append(slices.Clone(right), 0), []byte(long(65)), []byte(long(5000))}
}

// numbers are those that a message may have.
func numbers(s *site) []int {
	n := s.plain.n()
	return []int{math.MinInt, -2, -1, 0, 1, n - 1, n, n + 1, n + 2, n + 3, maxHeight, maxHeight + 1, math.MaxInt}
}

// messages are all that a side is told at a scene.
func messages(s *site) []wire.Msg {
	side := s.plain.c.Side
	ops := slices.Concat([]wire.Op{move(20), move(21)}, doable(1-side), undoable(1-side), doable(side))
	var l []wire.Msg
	for _, n := range numbers(s) {
		for _, lock := range locks(s) {
			for _, o := range ops {
				if near := n == s.plain.n()+1; near || o.Kind == kindMove && o.Amount == 20 {
					l = append(l, wire.Msg{Kind: kindPropose, Number: n, Op: o, Lock: lock})
				}
			}
			l = append(l, wire.Msg{Kind: kindAgree, Number: n, Lock: lock})
		}
		for _, secret := range secrets(s) {
			l = append(l, wire.Msg{Kind: kindCommit, Number: n, Secret: secret}, wire.Msg{Kind: kindDone, Number: n, Secret: secret})
		}
		for _, kind := range []int{kindRefuse, 0, 6, -1, math.MinInt, math.MaxInt} {
			l = append(l, wire.Msg{Kind: kind, Number: n})
		}
		for kind := kindAgree; kind <= kindRefuse; kind++ { // what its kind does not ask for is passed over
			l = append(l, wire.Msg{Kind: kind, Number: n, Op: move(20), Lock: lockOf(s.seed, s.plain.n()+1), Secret: secretOf(s.seed, n-1)})
		}
	}
	return l
}

// copyOf is a site on pages and a book of its own, with what is kept and signed at another one.
func copyOf(t *testing.T, s *site) *site {
	t.Helper()
	c := &site{t: t, store: newStore(t, s.store.Pages()), book: s.book.Clone(), plain: s.plain.clone(), seed: s.seed, gave: slices.Clone(s.gave)}
	for i := range s.store.Pages() {
		b, err := s.store.Read(i)
		wantErr(t, "a page", err, 0)
		if len(b) > 0 {
			wantErr(t, "a page", c.store.Write(i, b), 0)
		}
	}
	wantErr(t, "pages", c.store.Sync(), 0)
	var err error
	if c.peer, err = peer.Open(c.store, c.plain.c, c.book); err != nil {
		t.Fatal(err)
	}
	return c
}

// PE3: every message in every step, of numbers around the side's own, with and without the other side's signature: what is answered, kept, signed and told behind it; and the same message once more.
func TestHandleAll(t *testing.T) {
	for _, c := range scenes() {
		whole := at(t, c)
		for _, m := range messages(whole) {
			for _, gives := range []bool{false, true} {
				if gives && whole.plain.step != proposed && whole.plain.step != agreed {
					continue
				}
				if gives && m.Kind != kindAgree && m.Kind != kindCommit {
					continue
				}
				s := copyOf(t, whole)
				if gives {
					s.give(s.plain.next())
				}
				s.hear(c.String(), m)
				s.hear(c.String()+", again", m)
			}
		}
	}
}

// PE2: Propose of all that can and can't be done, in every step.
func TestProposeAll(t *testing.T) {
	for _, c := range scenes() {
		whole := at(t, c)
		for i, o := range slices.Concat(doable(c.side), undoable(c.side), doable(1-c.side)) {
			s := copyOf(t, whole)
			s.propose(fmt.Sprint(c, ", op ", i), o)
			s.propose(fmt.Sprint(c, ", op ", i, " again"), o)
		}
	}
}

// PE2: each error of wire.Do and of build.Commit, by its number; an error leaves the side idle, with nothing kept anew.
func TestProposeErrors(t *testing.T) {
	for _, x := range []struct {
		what string
		c    peer.Config
		o    wire.Op
		no   api.Errno
	}{
		{"no kind", config(0), wire.Op{}, api.ErrArg},
		{"too much", config(0), move(501), api.ErrFunds},
		{"nothing", config(1), move(0), api.ErrDust},
		{"a payment of the other side", config(1), add(pay(7, 0, 30)), api.ErrParty},
		{"a small payment", config(1), add(pay(7, 1, 9)), api.ErrDust},
		{"a payment twice", config(1), add(pay(2, 1, 30)), api.ErrTwice},
		{"no payment", config(1), fail(4), api.ErrNone},
		{"its own payment", config(1), fail(3), api.ErrParty},
		{"a wrong secret", config(1), settleBy(2, nil), api.ErrHash},
		{"less than the fee", config(0), move(496), api.ErrFee},
		{"as much as leaves the fee", config(0), move(495), 0},
		{"no output", smallConfig(0), move(4), api.ErrRange},
		{"one output", smallConfig(0), move(5), 0},
		{"less than the small fee", smallConfig(0), move(14), api.ErrFee},
	} {
		s := newSite(t, x.c, 20)
		_, err := s.peer.Propose(x.o)
		wantErr(t, x.what, err, x.no)
		if x.no != 0 {
			s.check(x.what)
		}
		s = newSite(t, x.c, 20)
		s.propose(x.what, x.o)
	}
}

// PE3: a Propose is refused for whatever Propose of the other side would answer an error for, commitments that can't be among it.
func TestRefuse(t *testing.T) {
	for _, x := range []struct {
		what   string
		c      peer.Config
		o      wire.Op
		refuse bool
	}{
		{"too much", config(1), move(501), true},
		{"all but the fee", config(1), move(495), false},
		{"less than the fee", config(1), move(496), true},
		{"no output", smallConfig(1), move(4), true},
		{"one output", smallConfig(1), move(5), false},
		{"a payment of the side itself", config(1), add(pay(7, 1, 30)), true},
		{"its own payment", config(1), fail(2), true},
		{"a wrong secret", config(1), settleBy(3, nil), true},
	} {
		s := newSite(t, x.c, 20)
		want := []wire.Msg{{Kind: kindRefuse, Number: 1}}
		if !x.refuse {
			want = []wire.Msg{{Kind: kindAgree, Number: 1, Lock: lockOf(ownSeed, 1)}}
		}
		told, err := s.peer.Handle(s.proposeMsg(x.o))
		wantErr(t, x.what, err, 0)
		wantTold(t, x.what, told, want)
		if s.peer.Busy() == x.refuse {
			t.Errorf("%s: Busy: %v", x.what, s.peer.Busy())
		}
		s = newSite(t, x.c, 20)
		s.hear(x.what, s.proposeMsg(x.o))
	}
}

// row is a message at a scene, and what must be answered, written out: an error, or what is told and the number and step behind it.
type row struct {
	scene
	m       wire.Msg
	gives   bool // whether the other side has signed what is under way
	no      api.Errno
	told    []wire.Msg
	n, step int
}

// rows are PE3's rules, row by row. The sides of the scenes have the locks and secrets of their seeds; what is under way is a move of 20.
func rows() []row {
	lock, secret := func(n int) api.Hash { return lockOf(otherSeed, n) }, func(n int) []byte { return secretOf(otherSeed, n) }
	propose := func(n, amount int) wire.Msg {
		return wire.Msg{Kind: kindPropose, Number: n, Op: move(amount), Lock: lock(n)}
	}
	agree := func(n int) wire.Msg { return wire.Msg{Kind: kindAgree, Number: n, Lock: lock(n)} }
	commit := func(n int, secret []byte) wire.Msg {
		return wire.Msg{Kind: kindCommit, Number: n, Secret: secret}
	}
	done := func(n int, secret []byte) wire.Msg { return wire.Msg{Kind: kindDone, Number: n, Secret: secret} }
	refuse := func(n int) wire.Msg { return wire.Msg{Kind: kindRefuse, Number: n} }
	noLock := func(m wire.Msg) wire.Msg { m.Lock = api.Hash{}; return m }
	otherLock := func(m wire.Msg) wire.Msg { m.Lock = api.Hash{5}; return m }
	myAgree := func(n int) []wire.Msg { return []wire.Msg{{Kind: kindAgree, Number: n, Lock: lockOf(ownSeed, n)}} }
	myCommit := func(n int) []wire.Msg {
		return []wire.Msg{{Kind: kindCommit, Number: n, Secret: secretOf(ownSeed, n-1)}}
	}
	myDone := func(n int) []wire.Msg {
		return []wire.Msg{{Kind: kindDone, Number: n, Secret: secretOf(ownSeed, n-1)}}
	}
	return []row{
		{scene{0, 2, idle}, wire.Msg{}, false, api.ErrArg, nil, 2, idle},
		{scene{0, 2, idle}, wire.Msg{Kind: 6, Number: 3}, false, api.ErrArg, nil, 2, idle},
		{scene{1, 2, agreed}, wire.Msg{Kind: -1, Number: 3}, false, api.ErrArg, nil, 2, agreed},

		{scene{0, 2, idle}, propose(2, 20), false, api.ErrOld, nil, 2, idle},
		{scene{0, 2, idle}, propose(1, 20), false, api.ErrOld, nil, 2, idle},
		{scene{0, 2, idle}, propose(4, 20), false, api.ErrState, nil, 2, idle},
		{scene{0, 2, idle}, noLock(propose(4, 20)), false, api.ErrState, nil, 2, idle},
		{scene{0, 2, idle}, noLock(propose(3, 20)), false, api.ErrArg, nil, 2, idle},
		{scene{0, 2, idle}, noLock(propose(3, 2000)), false, api.ErrArg, nil, 2, idle},
		{scene{0, 2, idle}, propose(3, 2000), false, 0, []wire.Msg{refuse(3)}, 2, idle},
		{scene{0, 2, idle}, propose(3, 20), false, 0, myAgree(3), 2, agreed},
		{scene{1, 0, idle}, propose(1, 20), false, 0, myAgree(1), 0, agreed},
		{scene{0, 2, agreed}, propose(3, 20), false, 0, myAgree(3), 2, agreed},
		{scene{0, 2, agreed}, propose(3, 21), false, api.ErrState, nil, 2, agreed},
		{scene{0, 2, agreed}, otherLock(propose(3, 20)), false, api.ErrState, nil, 2, agreed},
		{scene{0, 2, agreed}, noLock(propose(3, 20)), false, api.ErrState, nil, 2, agreed},
		{scene{0, 2, agreed}, propose(2, 20), false, api.ErrOld, nil, 2, agreed},
		{scene{1, 2, committed}, propose(3, 20), false, api.ErrState, nil, 2, committed},
		{scene{0, 2, proposed}, propose(3, 21), false, api.ErrState, nil, 2, proposed},
		{scene{0, 2, proposed}, propose(3, 20), false, api.ErrState, nil, 2, proposed},
		{scene{1, 2, proposed}, propose(3, 21), false, 0, myAgree(3), 2, agreed},
		{scene{1, 2, proposed}, propose(3, 2000), false, 0, []wire.Msg{refuse(3)}, 2, proposed},
		{scene{1, 2, proposed}, noLock(propose(3, 2000)), false, api.ErrArg, nil, 2, proposed},

		{scene{0, 2, committed}, agree(2), false, 0, myCommit(2), 2, committed},
		{scene{0, 2, committed}, noLock(agree(2)), false, 0, myCommit(2), 2, committed},
		{scene{0, 2, committed}, agree(3), false, api.ErrState, nil, 2, committed},
		{scene{0, 2, proposed}, agree(2), true, api.ErrState, nil, 2, proposed},
		{scene{0, 2, proposed}, agree(4), true, api.ErrState, nil, 2, proposed},
		{scene{0, 2, idle}, agree(3), false, api.ErrState, nil, 2, idle},
		{scene{0, 2, idle}, agree(2), false, api.ErrState, nil, 2, idle},
		{scene{0, 2, agreed}, agree(3), true, api.ErrState, nil, 2, agreed},
		{scene{0, 2, proposed}, noLock(agree(3)), false, api.ErrArg, nil, 2, proposed},
		{scene{0, 2, proposed}, noLock(agree(3)), true, api.ErrArg, nil, 2, proposed},
		{scene{0, 2, proposed}, agree(3), false, api.ErrSign, nil, 2, proposed},
		{scene{0, 2, proposed}, agree(3), true, 0, myCommit(3), 3, committed},
		{scene{1, 0, proposed}, agree(1), true, 0, myCommit(1), 1, committed},

		{scene{0, 2, idle}, commit(2, nil), false, 0, myDone(2), 2, idle},
		{scene{0, 2, agreed}, commit(2, secret(1)), false, 0, myDone(2), 2, agreed},
		{scene{0, 2, proposed}, commit(2, secret(1)), false, 0, myDone(2), 2, proposed},
		{scene{0, 2, committed}, commit(2, secret(1)), false, api.ErrState, nil, 2, committed},
		{scene{0, 0, idle}, commit(0, secret(-1)), false, api.ErrState, nil, 0, idle},
		{scene{0, 2, agreed}, commit(1, secret(0)), true, api.ErrState, nil, 2, agreed},
		{scene{0, 2, agreed}, commit(4, secret(2)), true, api.ErrState, nil, 2, agreed},
		{scene{0, 2, idle}, commit(3, secret(2)), false, api.ErrState, nil, 2, idle},
		{scene{0, 2, proposed}, commit(3, secret(2)), true, api.ErrState, nil, 2, proposed},
		{scene{0, 2, agreed}, commit(3, nil), false, api.ErrHash, nil, 2, agreed},
		{scene{0, 2, agreed}, commit(3, secret(3)), true, api.ErrHash, nil, 2, agreed},
		{scene{0, 2, agreed}, commit(3, append(secret(2), 0)), true, api.ErrHash, nil, 2, agreed},
		{scene{0, 2, agreed}, commit(3, secret(2)), false, api.ErrSign, nil, 2, agreed},
		{scene{0, 2, agreed}, commit(3, secret(2)), true, 0, myDone(3), 3, idle},
		{scene{1, 0, agreed}, commit(1, secret(0)), true, 0, myDone(1), 1, idle},

		{scene{0, 2, idle}, done(2, secret(1)), false, 0, nil, 2, idle},
		{scene{0, 2, proposed}, done(3, nil), false, 0, nil, 2, proposed},
		{scene{0, 2, agreed}, done(7, nil), false, 0, nil, 2, agreed},
		{scene{0, 2, committed}, done(1, secret(0)), false, api.ErrState, nil, 2, committed},
		{scene{0, 2, committed}, done(3, secret(1)), false, api.ErrState, nil, 2, committed},
		{scene{0, 2, committed}, done(2, secret(2)), false, api.ErrHash, nil, 2, committed},
		{scene{0, 2, committed}, done(2, nil), false, api.ErrHash, nil, 2, committed},
		{scene{0, 2, committed}, done(2, secret(1)), false, 0, nil, 2, idle},
		{scene{1, 1, committed}, done(1, secret(0)), false, 0, nil, 1, idle},

		{scene{0, 2, proposed}, refuse(3), false, 0, nil, 2, idle},
		{scene{1, 0, proposed}, refuse(1), false, 0, nil, 0, idle},
		{scene{0, 2, proposed}, refuse(2), false, 0, nil, 2, proposed},
		{scene{0, 2, proposed}, refuse(4), false, 0, nil, 2, proposed},
		{scene{0, 2, agreed}, refuse(3), false, 0, nil, 2, agreed},
		{scene{0, 2, committed}, refuse(3), false, 0, nil, 2, committed},
		{scene{0, 2, committed}, refuse(2), false, 0, nil, 2, committed},
		{scene{0, 2, idle}, refuse(3), false, 0, nil, 2, idle},
	}
}

// PE3, row by row.
func TestHandleRows(t *testing.T) {
	for _, r := range rows() {
		what := fmt.Sprint(r.scene, ": ", tell(r.m))
		s := at(t, r.scene)
		if r.gives {
			s.give(s.plain.next())
		}
		told, err := s.peer.Handle(r.m)
		wantErr(t, what, err, r.no)
		wantTold(t, what, told, r.told)
		kept := keptOn(t, what, s.store)
		if kept["now"] != laidUint(uint64(r.n)) || kept["step"][:len(laidUint(uint64(r.step)))] != laidUint(uint64(r.step)) {
			t.Errorf("%s: kept %q, %q, want %d, %s", what, kept["now"], kept["step"], r.n, stepNames[r.step])
		}
		if s.peer.State().Number != r.n || s.peer.Busy() != (r.step != idle) {
			t.Errorf("%s: %d, %v", what, s.peer.State().Number, s.peer.Busy())
		}
	}
}

// The chapter's example: Propose, Agree, Commit, Done, of two sides; what each one tells, signs and keeps, key by key.
func TestExample(t *testing.T) {
	first := state.State{Has: [2]int{500, 300}}
	second := state.State{Number: 1, Has: [2]int{480, 320}}
	seeds := [2]string{"a", "b"}
	book := oath.New()
	stores := [2]*siteStore{}
	for i := range 2 {
		c := config(i)
		c.Params.Amount, c.Params.Keys, c.First, c.Seed, c.Other = 800, [2]int{1, 2}, first, seeds[i], lockOf(seeds[1-i], 0)
		stores[i] = openStore(t, c, book)
	}
	none := laidStep(idle, wire.Op{}, api.Hash{})
	start := func(i int) map[string]string {
		lock := lockOf(seeds[1-i], 0)
		return map[string]string{"now": "\x00", "state/0000000000000": string(state.Encode(first)), "lock/0000000000000": string(lock[:]), "step": none}
	}
	with := func(m map[string]string, more ...string) map[string]string {
		for i := 0; i < len(more); i += 2 {
			m[more[i]] = more[i+1]
		}
		return m
	}
	wantKept(t, "new, 0", stores[0].store, start(0))
	wantKept(t, "new, 1", stores[1].store, start(1))
	signed := func(what string, who int, want ...api.Hash) {
		t.Helper()
		if got := book.Sums(who); !slices.Equal(got, want) {
			t.Errorf("%s: party %d signed %x, want %x", what, who, got, want)
		}
	}
	id := func(s state.State, owner int) api.Hash {
		x := plain{c: stores[owner].c}
		h, err := x.mine(s)
		wantErr(t, "a commitment", err, 0)
		return h
	}
	signed("new", 1, id(first, 1))
	signed("new", 2, id(first, 0))

	told, err := stores[0].peer.Propose(move(20))
	wantErr(t, "Propose", err, 0)
	wantTold(t, "Propose", told, []wire.Msg{{Kind: wire.Propose, Number: 1, Op: move(20), Lock: lockOf("a", 1)}})
	wantKept(t, "Propose", stores[0].store, with(start(0), "step", laidStep(1, move(20), api.Hash{})))
	signed("Propose", 1, id(first, 1))

	told, err = stores[1].peer.Handle(told[0])
	wantErr(t, "Agree", err, 0)
	wantTold(t, "Agree", told, []wire.Msg{{Kind: wire.Agree, Number: 1, Lock: lockOf("b", 1)}})
	wantKept(t, "Agree", stores[1].store, with(start(1), "step", laidStep(2, move(20), lockOf("a", 1))))
	signed("Agree", 2, id(first, 0), id(second, 0))

	told, err = stores[0].peer.Handle(told[0])
	wantErr(t, "Commit", err, 0)
	wantTold(t, "Commit", told, []wire.Msg{{Kind: wire.Commit, Number: 1, Secret: secretOf("a", 0)}})
	lock := lockOf("b", 1)
	behind := with(start(0), "now", "\x01\x01", "state/0000000000001", string(state.Encode(second)), "lock/0000000000001", string(lock[:]))
	wantKept(t, "Commit", stores[0].store, with(behind, "step", laidStep(3, wire.Op{}, api.Hash{})))
	signed("Commit", 1, id(first, 1), id(second, 1))

	told, err = stores[1].peer.Handle(told[0])
	wantErr(t, "Done", err, 0)
	wantTold(t, "Done", told, []wire.Msg{{Kind: wire.Done, Number: 1, Secret: secretOf("b", 0)}})
	lock = lockOf("a", 1)
	wantKept(t, "Done", stores[1].store, with(start(1), "now", "\x01\x01", "state/0000000000001", string(state.Encode(second)), "lock/0000000000001", string(lock[:]), "secret/0000000000000", string(secretOf("a", 0)), "step", none))

	told, err = stores[0].peer.Handle(told[0])
	wantErr(t, "behind Done", err, 0)
	wantTold(t, "behind Done", told, nil)
	wantKept(t, "behind Done", stores[0].store, with(behind, "secret/0000000000000", string(secretOf("b", 0)), "step", none))
	signed("at last", 1, id(first, 1), id(second, 1))
	signed("at last", 2, id(first, 0), id(second, 0))
	for i := range 2 {
		if s := stores[i].peer.State(); !same(s, second) || stores[i].peer.Busy() {
			t.Errorf("side %d: %v, %v", i, s, stores[i].peer.Busy())
		}
		mine, err := stores[i].peer.Mine()
		wantErr(t, "Mine", err, 0)
		if tx.ID(mine) != id(second, i) {
			t.Errorf("side %d: Mine: %v", i, mine)
		}
	}
}

// PE3: a Commit told again, when something new was proposed, or agreed to, already, and an Agree told again behind the commit.
func TestToldAgain(t *testing.T) {
	for side := range 2 {
		s := newSite(t, config(side), 80)
		s.hear("propose", s.proposeMsg(move(20)))
		s.give(s.plain.next())
		commit := s.commitMsg()
		s.hear("commit", commit)
		s.propose("anew", move(5))
		s.hear("the commit again", commit)
		s.give(s.plain.next())
		agree := s.agreeMsg()
		s.hear("agree", agree)
		s.hear("agree again", agree)
		s.hear("the commit again", commit)
		done := s.doneMsg()
		s.hear("done", done)
		s.hear("done again", done)
		s.hear("agree again", agree)
		s.hear("propose anew", s.proposeMsg(move(6)))
		s.hear("agree again", agree)
		s.hear("done again", done)
		s.hear("a commit of the number that is", wire.Msg{Kind: kindCommit, Number: s.plain.n()})
	}
}

// PE3: a Propose that crosses one of its own: side 0 stays at its own, side 1 gives way.
func TestCross(t *testing.T) {
	for side := range 2 {
		s := newSite(t, config(side), 80)
		s.propose("its own", move(7))
		s.hear("refused", s.proposeMsg(move(10000)))
		s.hear("across", s.proposeMsg(move(9)))
		if next, _, err := s.peer.Agreed(); (err == nil) != (side == 1) || side == 1 && next.Has != [2]int{491, 309} {
			t.Errorf("side %d: %v, %v", side, next, err)
		}
		s.give(s.plain.next())
		if side == 0 {
			s.hear("agree", s.agreeMsg())
			continue
		}
		s.hear("an agree to what is forgotten", s.agreeMsg())
		s.hear("commit", s.commitMsg())
	}
}
