package peer_test

import (
	"bytes"
	"fmt"
	"maps"
	"math/rand"
	"slices"
	"testing"

	"bayou/api"
	"bayou/peer"
	"bayou/wire"
)

// dice are choices, of bytes.
type dice struct{ left []byte }

// roll is a number below n, which is at most 256; 0, if none is left.
func (d *dice) roll(n int) int {
	if len(d.left) == 0 {
		return 0
	}
	x := d.left[0]
	d.left = d.left[1:]
	return int(x) % n
}

// pick is one of some.
func pick[T any](d *dice, l []T) T { return l[d.roll(len(l))] }

// over tells whether none is left.
func (d *dice) over() bool { return len(d.left) == 0 }

// op is something to be done, by a side or not.
func (d *dice) op(side int) wire.Op {
	if d.roll(4) == 0 {
		side = 1 - side
	}
	switch d.roll(6) {
	case 0, 1:
		return move(d.roll(60))
	case 2:
		return add(pay(4+d.roll(8), side, 9+d.roll(40)))
	case 3:
		return settle(2 + d.roll(10))
	case 4:
		return fail(2 + d.roll(10))
	}
	return pick(d, slices.Concat(doable(side), undoable(side)))
}

// guard looks at what a side signs and tells, and knows of its rules nothing but that it signs one commitment of each number at most, and never tells the secret of its own number.
type guard struct {
	t       *testing.T
	seen    int              // sums of the side's key that were looked at
	numbers map[int]api.Hash // the commitment of a number that was signed
	told    int              // secrets
}

// look looks at a side behind a call.
func (g *guard) look(what string, s *site, told []wire.Msg) {
	g.t.Helper()
	sums := s.book.Sums(s.key())
	for _, sum := range sums[g.seen:] {
		n, ok := numberOf(s, sum)
		old, there := g.numbers[n]
		if !ok || there && old != sum {
			g.t.Fatalf("%s: signed %x of number %d (%v), and %x before (%v)", what, sum, n, ok, old, there)
		}
		g.numbers[n] = sum
	}
	g.seen = len(sums)
	for _, m := range told {
		for k := range s.peer.State().Number + 4 {
			if len(m.Secret) == 0 || !bytes.Equal(m.Secret, peer.Secret(s.plain.c.Seed, k)) {
				continue
			}
			g.told++
			if k >= s.peer.State().Number || s.store.Loose() != 0 {
				g.t.Fatalf("%s: the secret of %d is told at %d", what, k, s.peer.State().Number)
			}
		}
	}
}

// numberOf is the number of the other side's commitment that a sum is of.
func numberOf(s *site, sum api.Hash) (int, bool) {
	now := s.peer.State()
	if lock, err := s.peer.Theirs(now.Number); err == nil {
		if id, err := s.plain.theirs(now, lock); err == nil && id == sum {
			return now.Number, true
		}
	}
	next, lock, err := s.peer.Agreed()
	if err != nil {
		return 0, false
	}
	id, err := s.plain.theirs(next, lock)
	return next.Number, err == nil && id == sum
}

// madeUp is a message, right or not.
func madeUp(d *dice, s *site) wire.Msg {
	n := s.plain.n()
	m := wire.Msg{Kind: 1 + d.roll(5), Number: n + d.roll(4) - 1}
	if d.roll(16) == 0 {
		m.Kind, m.Number = d.roll(9)-2, pick(d, numbers(s))
	}
	if m.Kind == kindPropose || d.roll(8) == 0 {
		m.Op = d.op(1 - s.plain.c.Side)
	}
	m.Lock = pick(d, locks(s))
	m.Secret = pick(d, secrets(s))
	if d.roll(3) == 0 {
		m.Secret = paySecret(d.roll(10))
	}
	return m
}

// rightly is what brings a side on.
func rightly(d *dice, s *site) wire.Msg {
	switch s.plain.step {
	case proposed:
		s.give(s.plain.next())
		return s.agreeMsg()
	case agreed:
		s.give(s.plain.next())
		return s.commitMsg()
	case committed:
		return s.doneMsg()
	}
	return s.proposeMsg(d.op(1 - s.plain.c.Side))
}

// signsAny has the other side sign any commitment of the side's.
func signsAny(d *dice, s *site) {
	now := s.plain.now()
	if next, err := wire.Do(now, d.roll(2), d.op(d.roll(2))); err == nil {
		now = next
	}
	now.Number = s.plain.n() + d.roll(3)
	if _, err := s.plain.mine(now); err == nil {
		s.give(now)
	}
}

// crashing is a call within which the store may crash, whatever is kept then; the side is opened anew behind it.
func (s *site) crashing(d *dice, call func() ([]wire.Msg, error), plainly func(x *plain) ([]wire.Msg, api.Errno)) []wire.Msg {
	s.t.Helper()
	k, keep := d.roll(12), bits(d.roll(64))
	next := s.plain.clone()
	want, no := plainly(&next)
	wantErr(s.t, "Arm", s.store.Arm(k), 0)
	told, err := call()
	if !s.store.Down() {
		wantErr(s.t, "not crashed", err, no)
		wantTold(s.t, "not crashed", told, want)
		s.plain = next
		s.check("not crashed")
		s.store.Start(nil)
		s.open("not crashed")
		return told
	}
	wantErr(s.t, "crashed", err, api.ErrDown)
	wantTold(s.t, "crashed", told, nil)
	dead := s.plain.clone()
	dead.dead = api.ErrDown
	ahead := s.plain
	s.plain = dead
	s.check("crashed")
	s.store.Start(keep)
	s.plain = ahead
	if maps.Equal(keptOn(s.t, "crashed", s.store), next.kept()) {
		next.signed = ahead.signed
		s.plain = next
	}
	s.open("behind a crash")
	return nil
}

// rough has a side hear whatever comes, crash wherever, and holds it against the plain one and the guard.
func rough(t *testing.T, data []byte) (numbers, told int) {
	t.Helper()
	d := &dice{data}
	side := d.roll(2)
	s := newSite(t, config(side), 160+d.roll(80))
	if d.roll(8) == 0 {
		s = newSite(t, smallConfig(side), 160)
	}
	g := &guard{t: t, numbers: map[int]api.Hash{}}
	g.look("new", s, nil)
	for !d.over() && s.plain.dead == 0 {
		g.look(roughStep(d, s))
	}
	if s.plain.dead != 0 {
		s.wantDead("at last", s.plain.dead)
		s.open("at last")
		g.look("at last", s, nil)
	}
	return s.plain.n(), g.told
}

// roughStep is one thing that comes.
func roughStep(d *dice, s *site) (string, *site, []wire.Msg) {
	hear := func(m wire.Msg) (string, *site, []wire.Msg) {
		want, no := s.plain.hear(m, s.has)
		told, err := s.peer.Handle(m)
		wantErr(s.t, tell(m), err, no)
		wantTold(s.t, tell(m), told, want)
		s.check(tell(m))
		return tell(m), s, told
	}
	switch d.roll(10) {
	case 0, 1:
		return hear(rightly(d, s))
	case 2, 3, 4:
		return hear(madeUp(d, s))
	case 5:
		s.propose("propose", d.op(s.plain.c.Side))
	case 6:
		signsAny(d, s)
	case 7:
		m := rightly(d, s)
		told := s.crashing(d, func() ([]wire.Msg, error) { return s.peer.Handle(m) }, func(x *plain) ([]wire.Msg, api.Errno) { return x.hear(m, s.has) })
		return "crashing: " + tell(m), s, told
	case 8:
		o := d.op(s.plain.c.Side)
		told := s.crashing(d, func() ([]wire.Msg, error) { return s.peer.Propose(o) }, func(x *plain) ([]wire.Msg, api.Errno) { return x.propose(o) })
		return "crashing: propose", s, told
	case 9:
		told, err := s.peer.Resend()
		wantErr(s.t, "Resend", err, 0)
		return "Resend", s, told
	}
	return "", s, nil
}

// random are bytes by a seed.
func random(seed int64, n int) []byte {
	b := make([]byte, n)
	rand.New(rand.NewSource(seed)).Read(b)
	return b
}

// PE5: whatever is heard, made up or right, and whenever the pages crash: a side signs at most one commitment of each number, never tells the secret of its own number, and goes by the plain rules.
func TestRough(t *testing.T) {
	numbers, told := 0, 0
	for seed := range int64(400) {
		n, m := rough(t, random(seed, 400))
		numbers += n
		told += m
	}
	if numbers < 400 || told < 400 {
		t.Errorf("the sides came by %d numbers, and told %d secrets", numbers, told)
	}
}

// PE5, fuzzed.
func FuzzRough(f *testing.F) {
	for seed := range int64(4) {
		f.Add(random(seed, 200))
	}
	f.Fuzz(func(t *testing.T, data []byte) { rough(t, data[:min(len(data), 1000)]) })
}

// PE5: short rows of messages and calls, all of them: whatever the order, one commitment of a number.
func TestRoughShort(t *testing.T) {
	for side := range 2 {
		whole := newSite(t, config(side), 40)
		row := make([]int, 4)
		for i := range 9 * 9 * 9 * 9 {
			for j, x := 0, i; j < len(row); j++ {
				row[j] = x % 9
				x /= 9
			}
			s := copyOf(t, whole)
			g := &guard{t: t, numbers: map[int]api.Hash{}}
			for _, x := range row {
				told := shortStep(s, x)
				g.look(fmt.Sprint("side ", side, ", row ", row), s, told)
			}
			s.check(fmt.Sprint("side ", side, ", row ", row))
		}
	}
}

// shortStep is one of nine things that come.
func shortStep(s *site, x int) []wire.Msg {
	n := s.plain.n()
	hear := func(m wire.Msg) []wire.Msg {
		s.plain.hear(m, s.has)
		told, _ := s.peer.Handle(m)
		return told
	}
	switch x {
	case 0:
		s.plain.propose(move(20))
		told, _ := s.peer.Propose(move(20))
		return told
	case 1:
		return hear(s.proposeMsg(move(5)))
	case 2:
		m := s.proposeMsg(move(5))
		m.Lock = api.Hash{8}
		return hear(m)
	case 3:
		return hear(s.proposeMsg(move(6)))
	case 4:
		if s.plain.step == proposed || s.plain.step == agreed {
			s.give(s.plain.next())
		}
	case 5:
		return hear(wire.Msg{Kind: kindAgree, Number: n + 1, Lock: lockOf(s.seed, n+1)})
	case 6:
		return hear(wire.Msg{Kind: kindCommit, Number: n + 1, Secret: secretOf(s.seed, n)})
	case 7:
		return hear(wire.Msg{Kind: kindDone, Number: n, Secret: secretOf(s.seed, n-1)})
	case 8:
		return hear(wire.Msg{Kind: kindRefuse, Number: n + 1})
	}
	return nil
}
