package peer_test

import (
	"fmt"
	"maps"
	"testing"

	"bayou/api"
	"bayou/oath"
	"bayou/peer"
	"bayou/state"
	"bayou/tx"
	"bayou/wire"
)

// plenty is more steps of a store than a call takes.
const plenty = 100

// act is a call that changes a side.
type act struct {
	name string
	scene
	gives bool // whether the other side has signed what is under way
	call  func(s *site) ([]wire.Msg, error)
	plain func(s *site) // the same of the plain side
}

// proposes is an act of proposing.
func proposes(c scene, o wire.Op) act {
	return act{"propose", c, false, func(s *site) ([]wire.Msg, error) { return s.peer.Propose(o) }, func(s *site) { s.plain.propose(o) }}
}

// hears is an act of hearing.
func hears(name string, c scene, m func(s *site) wire.Msg) act {
	return act{name, c, true, func(s *site) ([]wire.Msg, error) { return s.peer.Handle(m(s)) }, func(s *site) { s.plain.hear(m(s), s.has) }}
}

// acts are all calls that change a side.
func acts() []act {
	var l []act
	for side := range 2 {
		for n := range 3 {
			l = append(l,
				proposes(scene{side, n, idle}, add(pay(8, side, 12))),
				hears("hear Propose", scene{side, n, idle}, func(s *site) wire.Msg { return s.proposeMsg(move(33)) }),
				hears("hear Agree", scene{side, n, proposed}, (*site).agreeMsg),
				hears("hear Commit", scene{side, n, agreed}, (*site).commitMsg),
				hears("hear Refuse", scene{side, n, proposed}, func(s *site) wire.Msg { return wire.Msg{Kind: kindRefuse, Number: n + 1} }),
			)
			if n > 0 {
				l = append(l, hears("hear Done", scene{side, n, committed}, (*site).doneMsg))
			}
			if side == 1 {
				l = append(l, hears("give way", scene{side, n, proposed}, func(s *site) wire.Msg { return s.proposeMsg(move(33)) }))
			}
		}
	}
	return l
}

// ready is a side at the act's scene, on a copy of it.
func (a act) ready(t *testing.T, whole *site) *site {
	t.Helper()
	s := copyOf(t, whole)
	if a.gives && (a.step == proposed || a.step == agreed) {
		s.give(s.plain.next())
	}
	return s
}

// bits are the numbers of the bits that are set.
func bits(set int) []int {
	var l []int
	for i := 0; set>>i > 0; i++ {
		if set>>i&1 == 1 {
			l = append(l, i)
		}
	}
	return l
}

// PE1 to PE5: each change is one Set. However far it comes, whatever of the loose writes is kept: nothing is signed and nothing told ahead of it, the side stops for good, and opened anew it is where it was ahead of the call or behind it, has signed what may be signed, and goes on to the same place.
func TestCrash(t *testing.T) {
	for _, a := range acts() {
		whole := at(t, a.scene)
		s := a.ready(t, whole)
		took := s.steps(func() {
			_, err := a.call(s)
			wantErr(t, a.name, err, 0)
		})
		ahead := s.plain
		s.plain = behind(s, a)
		leaves, _ := changes(ahead, s.plain)
		if took != leaves+3 {
			t.Fatalf("%s, %s: it took %d steps, want %d leaves, Sync, the root, Sync", a.scene, a.name, took, leaves)
		}
		s.check(a.name)
		kept := map[bool]int{}
		for k := range took {
			loose := k + 1
			if k == leaves { // the first Sync
				loose = k
			} else if k > leaves {
				loose = 1
			}
			for keep := range 1 << loose {
				kept[cut(t, a, whole, k, keep)]++
			}
		}
		if kept[true] == 0 || kept[false] == 0 {
			t.Errorf("%s, %s: behind the crash it was there %v times", a.scene, a.name, kept)
		}
	}
}

// steps is how many steps of the store something takes.
func (s *site) steps(do func()) int {
	s.t.Helper()
	wantErr(s.t, "Arm", s.store.Arm(plenty), 0)
	do()
	left := 0
	for s.store.Sync() == nil {
		left++
	}
	s.store.Start(nil)
	return plenty - left
}

// cut has a call crash within a step, and tells whether what it lays down was kept.
func cut(t *testing.T, a act, whole *site, k, keep int) bool {
	t.Helper()
	s := a.ready(t, whole)
	what := fmt.Sprint(a.scene, ", ", a.name, ", crashed within step ", k, ", kept ", bits(keep))
	wantErr(t, what, s.store.Arm(k), 0)
	told, err := a.call(s)
	wantErr(t, what, err, api.ErrDown)
	wantTold(t, what, told, nil)
	s.plain.dead = api.ErrDown
	s.check(what)
	s.store.Start(bits(keep))
	s.wantDead(what, api.ErrDown)
	s.plain.dead = 0
	next := behind(s, a)
	got := keptOn(t, what, s.store)
	there := maps.Equal(got, next.kept())
	if !there && !maps.Equal(got, s.plain.kept()) {
		t.Fatalf("%s: neither what was, nor what comes: %v", what, got)
	}
	if there {
		next.signed = s.plain.signed // what comes with it is signed by Open
		s.plain = next
	}
	s.open(what)
	if !there {
		_, err := a.call(s)
		wantErr(t, what, err, 0)
		s.plain = behind(s, a)
		s.check(what + ", once more")
	}
	s.goOn(what)
	return there
}

// behind is the plain side behind an act.
func behind(s *site, a act) plain {
	c := *s
	c.plain = s.plain.clone()
	a.plain(&c)
	return c.plain
}

// goOn has a side end what is under way, and do two things more.
func (s *site) goOn(what string) {
	s.t.Helper()
	for n := s.plain.n(); s.plain.n() < n+2 || s.plain.step != idle; {
		s.step()
	}
	s.check(what + ", later")
}

// wantDead holds all calls that can fail against the error that stopped the side.
func (s *site) wantDead(what string, no api.Errno) {
	s.t.Helper()
	ahead := s.book.Clone()
	var told []wire.Msg
	for _, o := range []wire.Op{move(1), {}} {
		l, err := s.peer.Propose(o)
		wantErr(s.t, what+": Propose", err, no)
		told = append(told, l...)
	}
	for kind := range 7 {
		for _, n := range []int{-1, s.plain.n(), s.plain.n() + 1} {
			l, err := s.peer.Handle(wire.Msg{Kind: kind, Number: n, Op: move(1), Lock: lockOf(s.seed, n), Secret: secretOf(s.seed, n-1)})
			wantErr(s.t, fmt.Sprint(what, ": Handle of kind ", kind), err, no)
			told = append(told, l...)
		}
	}
	l, err := s.peer.Resend()
	wantErr(s.t, what+": Resend", err, no)
	wantTold(s.t, what, append(told, l...), nil)
	s.checkState(what)
	s.checkNumber(what, s.plain.n())
	s.checkNumber(what, -1)
	if s.book.Len() != ahead.Len() {
		s.t.Fatalf("%s: something is signed", what)
	}
}

// PE1: a crash of the first Open: nothing is signed, and the next one begins, or goes on.
func TestCrashOpen(t *testing.T) {
	for side := range 2 {
		for k := range 7 {
			for keep := range 1 << 5 {
				what := fmt.Sprint("side ", side, ", step ", k, ", kept ", bits(keep))
				c, store, book := config(side), newStore(t, 40), oath.New()
				wantErr(t, what, store.Arm(k), 0)
				p, err := peer.Open(store, c, book)
				wantErr(t, what, err, api.ErrDown)
				if p != nil || book.Len() != 0 {
					t.Fatalf("%s: %v beside the error, %d signatures", what, p, book.Len())
				}
				_, err = peer.Open(store, c, book)
				wantErr(t, what, err, api.ErrDown)
				store.Start(bits(keep))
				if got := keptOn(t, what, store); len(got) > 0 {
					wantKept(t, what, store, begun(c, 20).kept())
				}
				s := &site{t: t, store: store, book: book, plain: begun(c, 20), seed: otherSeed}
				s.open(what)
				s.goOn(what)
			}
		}
	}
	store := newStore(t, 40)
	wantErr(t, "Arm", store.Arm(7), 0)
	_, err := peer.Open(store, config(0), oath.New())
	wantErr(t, "the first Open takes 7 steps", err, 0)
}

// PE1 to PE4: what changes nothing takes no step of the store, so that a store that has crashed is not met.
func TestCrashUnmet(t *testing.T) {
	for _, c := range scenes() {
		s := at(t, c)
		wantErr(t, "Arm", s.store.Arm(0), 0)
		wantErr(t, "Sync", s.store.Sync(), api.ErrDown)
		s.check(c.String() + ", crashed unmet")
		s.hear(c.String(), wire.Msg{Kind: kindPropose, Number: c.n})
		s.hear(c.String(), wire.Msg{Kind: kindCommit, Number: c.n})
		s.hear(c.String(), wire.Msg{Kind: kindAgree, Number: c.n})
		s.hear(c.String(), wire.Msg{Kind: kindDone, Number: c.n + 1})
		s.hear(c.String(), wire.Msg{Kind: kindRefuse, Number: c.n})
		s.hear(c.String(), wire.Msg{})
		if c.step == idle {
			s.propose(c.String(), move(10000))
			s.hear(c.String(), s.proposeMsg(move(10000)))
			told, err := s.peer.Propose(move(1))
			wantErr(t, c.String(), err, api.ErrDown)
			wantTold(t, c.String(), told, nil)
			s.plain.dead = api.ErrDown
			s.wantDead(c.String(), api.ErrDown)
		}
		s.store.Start(nil)
		s.open(c.String())
		s.goOn(c.String())
	}
}

// PE4: a nil Peer answers ErrArg, and nothing.
func TestNil(t *testing.T) {
	var p *peer.Peer
	var told []wire.Msg
	for kind := range 7 {
		l, err := p.Handle(wire.Msg{Kind: kind, Number: 1, Lock: api.Hash{1}})
		wantErr(t, "Handle", err, api.ErrArg)
		told = append(told, l...)
	}
	l, err := p.Propose(move(1))
	wantErr(t, "Propose", err, api.ErrArg)
	again, err := p.Resend()
	wantErr(t, "Resend", err, api.ErrArg)
	wantTold(t, "told", append(append(told, l...), again...), nil)
	mine, err := p.Mine()
	wantErr(t, "Mine", err, api.ErrArg)
	old, err := p.Old(0)
	wantErr(t, "Old", err, api.ErrArg)
	secret, err := p.Known(0)
	wantErr(t, "Known", err, api.ErrArg)
	lock, err := p.Theirs(0)
	wantErr(t, "Theirs", err, api.ErrArg)
	next, nextLock, err := p.Agreed()
	wantErr(t, "Agreed", err, api.ErrArg)
	wantErr(t, "Dead", p.Dead(), api.ErrArg)
	if tx.ID(mine) != tx.ID(tx.Tx{}) || !same(old, state.State{}) || len(secret) > 0 || lock != (api.Hash{}) || !same(next, state.State{}) || nextLock != (api.Hash{}) {
		t.Error("something is told beside the error")
	}
	if !same(p.State(), state.State{}) || p.Busy() {
		t.Errorf("%v, %v", p.State(), p.Busy())
	}
}
