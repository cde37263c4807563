package peer_test

import (
	"fmt"
	"testing"

	"bayou/api"
	"bayou/oath"
	"bayou/peer"
	"bayou/state"
	"bayou/wire"
)

// wish is something that a side has proposed.
type wish struct {
	side int
	next state.State
}

// pair are both sides of a channel, with what is on its way to each, in no order.
type pair struct {
	t      *testing.T
	sites  [2]*site
	guards [2]*guard
	way    [2][]wire.Msg
	wishes []wish
}

// newPair are two sides that go by the rules.
func newPair(t *testing.T) *pair {
	t.Helper()
	p := &pair{t: t}
	book := oath.New()
	seeds := [2]string{ownSeed, otherSeed}
	for i := range 2 {
		c := config(i)
		c.Seed, c.Other = seeds[i], lockOf(seeds[1-i], 0)
		p.sites[i] = &site{t: t, store: newStore(t, 600), book: book, plain: begun(c, 300), seed: seeds[1-i]}
		p.guards[i] = &guard{t: t, numbers: map[int]api.Hash{}}
	}
	for i, s := range p.sites {
		q, err := peer.Open(s.store, s.plain.c, book)
		wantErr(t, "Open", err, 0)
		s.peer = q
		if i == 1 {
			p.check("new", 0, nil)
			p.check("new", 1, nil)
		}
	}
	return p
}

// check holds a side against the plain one, and looks at it, and takes what it told on its way.
func (p *pair) check(what string, side int, told []wire.Msg) {
	p.t.Helper()
	s := p.sites[side]
	s.gave = p.sites[1-side].plain.signed
	s.check(what)
	p.guards[side].look(what, s, told)
	p.way[1-side] = append(p.way[1-side], told...)
}

// propose has a side propose something.
func (p *pair) propose(side int, o wire.Op) {
	p.t.Helper()
	s := p.sites[side]
	want, no := s.plain.propose(o)
	told, err := s.peer.Propose(o)
	wantErr(p.t, "propose", err, no)
	wantTold(p.t, "propose", told, want)
	if err == nil {
		p.wishes = append(p.wishes, wish{side, s.plain.next()})
	}
	p.check("propose", side, told)
}

// hear has a side hear a message. An error tells that the message is none for where the side stands.
func (p *pair) hear(side int, m wire.Msg) {
	p.t.Helper()
	s := p.sites[side]
	want, no := s.plain.hear(m, s.has)
	told, err := s.peer.Handle(m)
	wantErr(p.t, tell(m), err, no)
	wantTold(p.t, tell(m), told, want)
	p.check(tell(m), side, told)
}

// again has a side tell again what it told last.
func (p *pair) again(side int) {
	p.t.Helper()
	told, err := p.sites[side].peer.Resend()
	wantErr(p.t, "Resend", err, 0)
	p.check("Resend", side, told)
}

// take is one of the messages on their way to a side; it may stay on its way.
func (p *pair) take(d *dice, side int, stays bool) (wire.Msg, bool) {
	l := p.way[side]
	if len(l) == 0 {
		return wire.Msg{}, false
	}
	i := d.roll(min(len(l), 256))
	m := l[i]
	if !stays {
		p.way[side] = append(l[:i:i], l[i+1:]...)
	}
	return m, true
}

// crash has a side crash while it hears a message.
func (p *pair) crash(d *dice, side int, m wire.Msg) {
	p.t.Helper()
	s := p.sites[side]
	s.gave = p.sites[1-side].plain.signed
	told := s.crashing(d, func() ([]wire.Msg, error) { return s.peer.Handle(m) }, func(x *plain) ([]wire.Msg, api.Errno) { return x.hear(m, s.has) })
	p.check("crashing: "+tell(m), side, told)
}

// some is one thing that happens.
func (p *pair) some(d *dice) {
	p.t.Helper()
	side := d.roll(2)
	what := d.roll(12)
	switch {
	case what < 3:
		p.propose(side, d.op(side))
		return
	case what == 3:
		p.again(side)
		return
	}
	m, ok := p.take(d, side, what == 4)
	switch {
	case !ok:
	case what == 5: // it is lost
	case what == 6:
		p.crash(d, side, m)
	default:
		p.hear(side, m)
	}
}

// settle has all that is told again be heard, till nothing is under way.
func (p *pair) settle() {
	p.t.Helper()
	for round := 0; p.sites[0].peer.Busy() || p.sites[1].peer.Busy(); round++ {
		if round == 8 {
			p.t.Fatalf("all was heard, and yet: %s at %d, %s at %d", stepNames[p.sites[0].plain.step], p.sites[0].plain.n(), stepNames[p.sites[1].plain.step], p.sites[1].plain.n())
		}
		for side := range 2 {
			p.again(side)
		}
		for side := range 2 {
			l := p.way[side]
			p.way[side] = nil
			for _, m := range l {
				p.hear(side, m)
			}
		}
	}
}

// holdSame holds both sides against one another: the same states of the same numbers, and what was proposed is done, but where side 1 gave way.
func (p *pair) holdSame() {
	p.t.Helper()
	a, b := p.sites[0].peer, p.sites[1].peer
	n := a.State().Number
	if !same(a.State(), b.State()) {
		p.t.Fatalf("%v, and %v", a.State(), b.State())
	}
	made := map[int][2]int{} // by number: how many of those done are of each side
	for k := range n + 1 {
		s, err := a.Old(k)
		wantErr(p.t, "Old", err, 0)
		o, err := b.Old(k)
		wantErr(p.t, "Old", err, 0)
		if !same(s, o) || state.Total(s) != 930 {
			p.t.Fatalf("of %d: %v, and %v", k, s, o)
		}
		count := made[k]
		for _, w := range p.wishes {
			if same(w.next, s) {
				count[w.side]++
			}
		}
		if made[k] = count; k > 0 && count == [2]int{} {
			p.t.Fatalf("%d was done, and nobody proposed it", k)
		}
	}
	for _, w := range p.wishes {
		done, err := a.Old(w.next.Number)
		wantErr(p.t, "Old", err, 0)
		if !same(done, w.next) && (w.side == 0 || made[w.next.Number][0] == 0) {
			p.t.Fatalf("side %d proposed %v, and %v was done", w.side, w.next, done)
		}
	}
}

// play has many things happen, and then all be heard.
func play(t *testing.T, data []byte) int {
	t.Helper()
	d, p := &dice{data}, newPair(t)
	for !d.over() && p.sites[0].plain.n() < 60 {
		p.some(d)
	}
	p.settle()
	p.holdSame()
	return p.sites[0].plain.n()
}

// PE5: two sides whose messages are lost, doubled, heard in any order and told again, and whose pages crash: at last both have the same state, and what was proposed is done.
func TestPair(t *testing.T) {
	numbers := 0
	for seed := range int64(300) {
		numbers += play(t, random(seed, 500))
	}
	if numbers < 600 {
		t.Errorf("the sides came by %d numbers", numbers)
	}
}

// PE5, fuzzed.
func FuzzPair(f *testing.F) {
	for seed := range int64(4) {
		f.Add(random(seed, 300))
	}
	f.Fuzz(func(t *testing.T, data []byte) { play(t, data[:min(len(data), 1500)]) })
}

// PE5: each single message of a round is lost, or heard twice, and each side crashes behind each of its own; Resend alone brings both to the same state.
func TestPairSingle(t *testing.T) {
	for leader := range 2 {
		for at := range 5 {
			for _, fate := range []string{"lost", "twice", "crash of who told", "crash of who hears"} {
				what := fmt.Sprint("side ", leader, ", message ", at, ", ", fate)
				p := newPair(t)
				p.propose(leader, move(20))
				for i := range 5 {
					side := (leader + 1 + i) % 2
					l := p.way[side]
					p.way[side] = nil
					for _, m := range l {
						p.fate(i == at, fate, side, m)
					}
				}
				p.settle()
				p.holdSame()
				if n := p.sites[0].plain.n(); n != 1 {
					t.Errorf("%s: at %d", what, n)
				}
			}
		}
	}
}

// fate has a message be heard; or something else, if it is its turn.
func (p *pair) fate(turn bool, fate string, side int, m wire.Msg) {
	p.t.Helper()
	if !turn {
		p.hear(side, m)
		return
	}
	switch fate {
	case "lost":
	case "twice":
		p.hear(side, m)
		p.hear(side, m)
	case "crash of who told":
		p.reopen(1 - side)
		p.hear(side, m)
	case "crash of who hears":
		p.reopen(side)
	}
}

// reopen has a side crash between two calls.
func (p *pair) reopen(side int) {
	p.t.Helper()
	s := p.sites[side]
	s.gave = p.sites[1-side].plain.signed
	s.store.Start(nil)
	s.open("crashed between two calls")
}

// PE5: both propose at once: what side 0 proposed is done, and then side 1 may propose anew.
func TestPairCross(t *testing.T) {
	for _, first := range []int{0, 1} {
		p := newPair(t)
		p.propose(first, move(7))
		p.propose(1-first, move(9))
		p.settle()
		p.holdSame()
		amount := 7
		if first == 1 {
			amount = 9
		}
		if s := p.sites[1].peer.State(); s.Number != 1 || s.Has != [2]int{500 - amount, 300 + amount} {
			t.Errorf("%v", s)
		}
		p.propose(1, move(3))
		p.settle()
		p.holdSame()
	}
}
