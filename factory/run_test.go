package factory_test

import (
	"fmt"
	"math/rand/v2"
	"slices"
	"testing"

	"bayou/api"
	"bayou/factory"
	"bayou/tree"
	"bayou/tx"
)

// letter is a message on its way to a member.
type letter struct {
	to int
	x  factory.Msg
}

// run is three members whose messages are lost, doubled and told out of order, and what was seen of them: what each one allowed, the numbers that it signed, and the round that was active.
type run struct {
	*scene
	way     []letter
	allowed [3]int
	signed  [3][]int
	active  [3]int
	refused int
}

// payouts are outputs of a Room of 90, of which each of three parties has more or less; the last ones can't be.
func payouts() [][]tx.Out {
	return [][]tx.Out{
		shares(30, 30, 30), shares(40, 30, 20), shares(20, 40, 30), shares(30, 20, 40), shares(90), shares(0, 90), shares(0, 0, 90), shares(45, 45), {out(60, []int{0}, []int{1}), out(30, []int{2})},
		shares(30, 30, 31), shares(81, 9),
	}
}

// newRun is a run of a tree.
func newRun(t *testing.T, what string, c tree.Config) *run {
	t.Helper()
	return &run{scene: joined(t, what, c, payouts()[0]), allowed: [3]int{30, 30, 30}}
}

// tell has what a member told on its way to both others.
func (r *run) tell(who int, told []factory.Msg) {
	for _, x := range told {
		for to := range 3 {
			if to != who {
				r.way = append(r.way, letter{to, x})
			}
		}
	}
}

// saw holds what a member told against FA5: it signs no number twice, and nothing of others in which it has less than it allowed.
func (r *run) saw(who int, told []factory.Msg, outs []tx.Out, own bool) {
	r.t.Helper()
	for _, x := range told {
		if x.Kind == kindRefuse {
			r.refused++
		}
		if x.Kind != kindSigned {
			continue
		}
		has := plainShare(outs, who)
		if l := r.signed[who]; len(l) > 0 && x.Round <= l[len(l)-1] || x.Round < 1 {
			r.t.Errorf("%s: %d signs the round %d behind %v", r.what, who, x.Round, l)
		}
		if !own && has < r.allowed[who] {
			r.t.Errorf("%s: %d signs a round in which it has %d, and it allowed %d", r.what, who, has, r.allowed[who])
		}
		r.signed[who], r.allowed[who] = append(r.signed[who], x.Round), has
	}
	for i, m := range r.members {
		n, _ := m.real.Active()
		if n < r.active[i] {
			r.t.Errorf("%s: the active round of %d falls from %d to %d", r.what, i, r.active[i], n)
		}
		r.active[i] = n
	}
}

// offer has a member offer.
func (r *run) offer(who int, outs []tx.Out) {
	r.t.Helper()
	told := r.members[who].offer(outs)
	r.saw(who, told, outs, true)
	r.tell(who, told)
}

// deliver has a member hear a message.
func (r *run) deliver(to int, x factory.Msg) {
	r.t.Helper()
	told := r.members[to].hear(x)
	r.saw(to, told, x.Outs, false)
	r.tell(to, told)
}

// allow has a member allow a share.
func (r *run) allow(who, least int) {
	r.t.Helper()
	r.members[who].allow(least)
	if least >= 0 && least <= r.allowed[who] {
		r.allowed[who] = least
	}
}

// step does what three bytes say.
func (r *run) step(a, b, c byte) {
	r.t.Helper()
	who, all := int(b)%3, payouts()
	outs := all[int(c)%len(all)]
	at := 0
	if len(r.way) > 0 {
		at = (int(b) + int(c)) % len(r.way)
	}
	switch a % 16 {
	case 0, 1:
		r.offer(who, outs)
	case 2, 3:
		r.allow(who, int(c)%40-2)
	case 4: // nobody told that
		r.deliver(who, factory.Msg{Kind: int(b)%5 - 1, From: int(c)%6 - 1, Round: r.members[who].last() + int(a)/16*2 - 4, Outs: outs})
	case 5: // lost
		if len(r.way) > 0 {
			r.way = slices.Delete(r.way, at, at+1)
		}
	case 6: // told, and told once more later
		if len(r.way) > 0 {
			r.deliver(r.way[at].to, r.way[at].x)
		}
	default:
		if len(r.way) > 0 {
			l := r.way[at]
			r.way = slices.Delete(r.way, at, at+1)
			r.deliver(l.to, l.x)
		}
	}
}

// finish holds the book against FA5, and has all that is still on its way lost.
func (r *run) finish() {
	r.t.Helper()
	var full []int
	for n := 1; n <= r.greatest(); n++ {
		var by [3]int
		for _, outs := range payouts() {
			all, no := plainBuild(r.t, r.c, n, outs)
			if no != 0 {
				continue
			}
			everyone := true
			for who := range 3 {
				if r.book.Has(who, tx.ID(all[len(all)-1])) {
					by[who]++
				} else {
					everyone = false
				}
			}
			if everyone {
				full = append(full, n)
			}
		}
		for who, count := range by {
			if count > 1 || (count == 1) != slices.Contains(r.signed[who], n) {
				r.t.Errorf("%s: %d has signed %d rounds of the number %d, and told of %v", r.what, who, count, n, r.signed[who])
			}
		}
	}
	r.wantNewer(full)
	r.way = nil
}

// greatest is the greatest round that somebody signed.
func (r *run) greatest() int {
	n := 0
	for _, m := range r.members {
		n = max(n, m.last())
	}
	return n
}

// wantNewer holds rounds that all have signed against FA5: the greater one's path is newer; and the greatest one is active for all.
func (r *run) wantNewer(full []int) {
	r.t.Helper()
	for i, n := range full {
		p, err := factory.Round(r.c, n)
		wantErr(r.t, "Round", err, 0)
		for _, older := range full[:i] {
			q, err := factory.Round(r.c, older)
			wantErr(r.t, "Round", err, 0)
			if !tree.Newer(r.c, p, q) || tree.Newer(r.c, q, p) {
				r.t.Errorf("%s: the round %d is not newer than %d", r.what, n, older)
			}
		}
	}
	if len(full) == 0 {
		full = []int{0}
	}
	for _, m := range r.members {
		m.wantActive(full[len(full)-1])
	}
}

// goOn has those that are behind come up, and then all sign a round more, as nothing is lost any more.
func (r *run) goOn() {
	r.t.Helper()
	last := r.greatest()
	if _, no := plainRound(r.t, r.c, last+1); no != 0 {
		return
	}
	for who, m := range r.members {
		for m.last() < last {
			r.offer(who, payouts()[0])
		}
		r.allow(who, 0)
	}
	r.way = nil
	r.offer(last%3, payouts()[7])
	for len(r.way) > 0 {
		l := r.way[0]
		r.way = r.way[1:]
		r.deliver(l.to, l.x)
	}
	for _, m := range r.members {
		m.wantActive(last + 1)
	}
}

// runTrees are trees for runs: of few paths and of many.
func runTrees() []tree.Config {
	few := base()
	few.Depth, few.Amount, few.First, few.Last, few.Step = 1, 95, 9, 1, 1
	deep := base()
	deep.Depth, deep.Amount, deep.First, deep.Last, deep.Step = 4, 110, 9, 7, 1
	return []tree.Config{base(), few, deep, wide()}
}

// play plays a run, and goes on behind it.
func play(t *testing.T, what string, c tree.Config, steps []byte) *run {
	t.Helper()
	r := newRun(t, what, c)
	for len(steps) >= 3 {
		r.step(steps[0], steps[1], steps[2])
		steps = steps[3:]
	}
	r.finish()
	r.goOn()
	r.finish()
	return r
}

// FA5: over many runs a member never signs two rounds of one number, nor a round in which it has less than it allowed; of two rounds that all have signed the greater one's path is newer.
func TestRuns(t *testing.T) {
	rounds, refused := 0, 0
	for seed := range 120 {
		random := rand.New(rand.NewPCG(18, uint64(seed)))
		steps := make([]byte, 3*70)
		for i := range steps {
			steps[i] = byte(random.UintN(256))
		}
		r := play(t, fmt.Sprint("the run ", seed), runTrees()[seed%4], steps)
		for _, m := range r.members {
			n, _ := m.real.Active()
			rounds += n
		}
		refused += r.refused
	}
	if rounds < 1000 || refused < 100 {
		t.Errorf("too little is done: active rounds of %d together, %d that were refused", rounds, refused)
	}
}

// FA5: two members offer the same number at once: no member signs both, so that none of them is active; the next one is.
func TestClash(t *testing.T) {
	for first := range 2 {
		r := newRun(t, "clash", base())
		r.offer(0, payouts()[4])
		r.offer(1, payouts()[5])
		letters := slices.Clone(r.way)
		r.allow(2, 0)
		if first == 1 {
			slices.Reverse(letters)
		}
		for _, l := range letters {
			r.deliver(l.to, l.x)
		}
		for _, m := range r.members {
			m.wantActive(0)
			want(t, "Last", m.real.Last(), nil, 1, 0)
		}
		r.finish()
		r.goOn()
		r.finish()
	}
}

// FA5: who is offered the same number again, with other outputs, behind a Refuse signs one of them alone.
func TestAgain(t *testing.T) {
	m := newScene(t, "again", base()).join(1, shares(30, 30, 30))
	wantKinds(t, "less", m.hear(offered(0, 1, shares(90))), kindRefuse)
	wantKinds(t, "less", m.hear(offered(2, 1, shares(60, 10, 20))), kindRefuse)
	wantKinds(t, "as much", m.hear(offered(2, 1, shares(30, 30, 30))), kindSigned)
	wantKinds(t, "as much", m.hear(offered(0, 1, shares(60, 30))))
	_, err := m.real.Handle(offered(0, 1, shares(60, 30)))
	wantErr(t, "once more", err, api.ErrOld)
	_, err = m.real.Handle(offered(2, 1, shares(30, 30, 30)))
	wantErr(t, "the same once more", err, api.ErrOld)
}

// FA2, FA3: all 2,000 rounds, offered in turn; each one is then the active one, and the last one stays it.
func TestAllRounds(t *testing.T) {
	var l []*factory.Member
	s := newScene(t, "all rounds", wide())
	for _, who := range s.c.Keys {
		m, err := factory.New(s.c, who, s.book, payouts()[0])
		wantErr(t, "New", err, 0)
		l = append(l, m)
	}
	for n := 1; n <= mostRounds; n++ {
		outs := payouts()[n%4]
		told, err := l[n%3].Offer(outs)
		wantErr(t, "Offer", err, 0)
		for who, m := range l {
			m.Allow(0)
			if who != n%3 {
				signed, err := m.Handle(told[0])
				want(t, "Handle", msgsText(signed), err, fmt.Sprintf("kind 2 of %d round %d:; ", who, n), 0)
			}
		}
		got, outsNow := l[(n+1)%3].Active()
		if got != n || outsText(outsNow) != outsText(outs) {
			t.Fatalf("Active %d %s behind the round %d", got, outsText(outsNow), n)
		}
	}
	for _, m := range l {
		_, err := m.Offer(payouts()[0])
		wantErr(t, "Offer", err, api.ErrRange)
		want(t, "Last", m.Last(), nil, mostRounds, 0)
	}
}

// FA2, FA4: 2,000 rounds that nobody else signs: the round 0 stays the active one, till others sign some of them.
func TestAlone(t *testing.T) {
	b := newScene(t, "alone", wide())
	m, err := factory.New(b.c, 0, b.book, payouts()[0])
	wantErr(t, "New", err, 0)
	for n := 1; n <= mostRounds; n++ {
		_, err := m.Offer(payouts()[n%4])
		wantErr(t, "Offer", err, 0)
	}
	for _, x := range [][2]int{{0, 0}, {1, 1}, {700, 700}, {699, 700}, {1999, 1999}, {2000, 2000}} {
		for _, who := range []int{1, 2} {
			b.outside(who, x[0], payouts()[x[0]%4])
		}
		n, outs := m.Active()
		if n != x[1] || outsText(outs) != outsText(payouts()[n%4]) {
			t.Errorf("Active %d %s, want %d", n, outsText(outs), x[1])
		}
	}
}

// FuzzRuns plays runs.
func FuzzRuns(f *testing.F) {
	f.Add(byte(0), []byte{0, 0, 1, 7, 0, 0, 7, 0, 0, 7, 0, 0, 2, 2, 9, 1, 1, 8})
	f.Add(byte(3), []byte{4, 1, 1, 20, 1, 1, 36, 2, 1, 52, 1, 3, 5, 0, 0, 6, 0, 0})
	f.Fuzz(func(t *testing.T, tree byte, steps []byte) {
		play(t, "fuzz", runTrees()[int(tree)%4], steps[:min(len(steps), 3*80)])
	})
}
