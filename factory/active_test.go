package factory_test

import (
	"fmt"
	"math"
	"slices"
	"testing"

	"bayou/api"
	"bayou/chain"
	"bayou/cond"
	"bayou/factory"
	"bayou/ledger"
	"bayou/oath"
	"bayou/tree"
	"bayou/tx"
)

// wantActive holds the active round of a member against the one that must be.
func (m *member) wantActive(n int) {
	m.t.Helper()
	got, _ := m.real.Active()
	want(m.t, fmt.Sprint(m.what, ": Active of ", m.who), got, nil, n, 0)
	m.look()
}

// FA4: as long as there is no round that all have signed, the round 0 is the active one, signed by all or not.
func TestActiveNone(t *testing.T) {
	s := newScene(t, "none", base())
	m := s.join(0, shares(30, 20, 40))
	m.wantActive(0)
	m.offer(shares(50, 40))
	m.wantActive(0)
	for _, who := range []int{1, 2} {
		s.outside(who, 0, shares(30, 20, 40))
		m.wantActive(0)
	}
	m.offer(shares(20, 70))
	m.wantActive(0)
}

// FA4: a round is active once all have signed it, and those that come behind it don't take its place till all have signed them.
func TestActive(t *testing.T) {
	s := newScene(t, "one of three", base())
	m := s.join(0, shares(30, 20, 40))
	a, b, c := shares(50, 40), shares(20, 70), shares(90)
	m.offer(a)
	s.outside(1, 1, a)
	m.wantActive(0)
	m.offer(b)
	s.outside(2, 1, a)
	m.wantActive(1)
	m.offer(c)
	m.wantActive(1)
	s.outside(1, 3, c)
	m.wantActive(1)
	s.outside(1, 2, b)
	s.outside(2, 2, b)
	m.wantActive(2)
	s.outside(2, 3, c)
	m.wantActive(3)
	m.offer(a)
	m.wantActive(3)
}

// FA4: the later one of two rounds is signed by all ahead of the earlier one: it stays active.
func TestActiveTurned(t *testing.T) {
	s := newScene(t, "turned", base())
	m := s.join(2, shares(30, 20, 40))
	l := [][]tx.Out{shares(30, 20, 40), shares(40, 50), shares(10, 80), shares(80, 10), shares(90)}
	for n := 1; n < 5; n++ {
		m.offer(l[n])
	}
	for i, n := range []int{3, 1, 4, 2, 0} {
		s.outside(0, n, l[n])
		m.wantActive([]int{0, 3, 3, 4, 4}[i])
		s.outside(1, n, l[n])
		m.wantActive([]int{3, 3, 4, 4, 4}[i])
	}
}

// FA4: with rounds that are left out: of one that the member has not signed, though all others have, nothing is active.
func TestActiveLeftOut(t *testing.T) {
	s := newScene(t, "left out", base())
	m := s.join(1, shares(30, 20, 40))
	for _, n := range []int{1, 2, 3, 4, 5} {
		for _, who := range []int{0, 2} {
			s.outside(who, n, shares(30, 20, 40))
		}
	}
	m.wantActive(0)
	m.hear(offered(0, 3, shares(30, 20, 40)))
	m.wantActive(3)
	m.hear(offered(0, 9, shares(30, 20, 40)))
	m.wantActive(3)
	m.hear(offered(0, 10, shares(20, 30, 40)))
	s.outside(0, 9, shares(30, 20, 40))
	s.outside(2, 10, shares(20, 30, 40))
	m.wantActive(3)
	s.outside(2, 9, shares(30, 20, 40))
	m.wantActive(9)
	s.outside(0, 10, shares(20, 30, 40))
	m.wantActive(10)
	s.outside(1, 11, shares(20, 30, 40)) // a signature that the member does not know of: it has not signed that round
	s.outside(0, 11, shares(20, 30, 40))
	s.outside(2, 11, shares(20, 30, 40))
	m.wantActive(10)
}

// FA4: of one number others have signed another round: it is not the one that the member has signed.
func TestActiveOther(t *testing.T) {
	s := newScene(t, "another one", base())
	m := s.join(0, shares(30, 20, 40))
	m.offer(shares(30, 60))
	for _, who := range []int{1, 2} {
		s.outside(who, 1, shares(60, 30))
	}
	m.wantActive(0)
	s.outside(1, 1, shares(30, 60))
	m.wantActive(0)
	s.outside(2, 1, shares(30, 60))
	m.wantActive(1)
}

// FA4: all have signed a round if all of Keys signed all of its path, each one each transaction; who is none of Keys counts for nothing.
func TestActiveEach(t *testing.T) {
	c := base()
	c.Keys, c.Depth, c.Amount = []int{1, 4, 9}, 3, 105
	outs := []tx.Out{out(90, []int{4})}
	all, no := plainBuild(t, c, 6, outs) // the first two ranks of which one is new
	wantErr(t, "the round 6", errOf(no), 0)
	type signature struct{ who, rank int }
	var l []signature
	for _, who := range []int{1, 9} {
		for rank := range all {
			l = append(l, signature{who, rank})
		}
	}
	for set := range 1 << len(l) {
		s := newScene(t, fmt.Sprintf("%b", set), c)
		m := s.join(4, outs)
		m.hear(offered(9, 6, outs))
		for rank := range all {
			s.outsideOne(7, tx.ID(all[rank]))
		}
		for i, x := range l {
			if set>>i&1 == 1 {
				s.outsideOne(x.who, tx.ID(all[x.rank]))
			}
		}
		n := 0
		if set == 1<<len(l)-1 {
			n = 6
		}
		m.wantActive(n)
	}
}

// FA4: Allow: below 0 and above its least share nothing, else its least share; it holds till the next round that it signs.
func TestAllow(t *testing.T) {
	for _, x := range []struct {
		allow []int
		least int
	}{
		{nil, 40}, {[]int{-1}, 40}, {[]int{math.MinInt}, 40}, {[]int{41}, 40}, {[]int{math.MaxInt}, 40}, {[]int{90}, 40}, {[]int{40}, 40}, {[]int{39}, 39}, {[]int{20}, 20}, {[]int{1}, 1}, {[]int{0}, 0},
		{[]int{20, 30}, 20}, {[]int{30, 20}, 20}, {[]int{20, -1}, 20}, {[]int{20, 21}, 20}, {[]int{20, 40}, 20}, {[]int{0, 40}, 0}, {[]int{0, 0}, 0}, {[]int{39, 38, 37, 50}, 37}, {[]int{20, math.MinInt, math.MaxInt}, 20},
	} {
		for share := 10; share <= 50; share++ {
			m := newScene(t, fmt.Sprint(x, share), base()).join(2, shares(30, 20, 40))
			for _, n := range x.allow {
				m.allow(n)
			}
			kind := kindSigned
			if share < x.least {
				kind = kindRefuse
			}
			wantKinds(t, m.what, m.hear(offered(0, 2, shares(90-share, 0, share))), kind)
			if kind == kindSigned && share > 10 {
				wantKinds(t, m.what+", and less behind it", m.hear(offered(0, 3, shares(91-share, 0, share-1))), kindRefuse)
			}
			if kind == kindSigned {
				wantKinds(t, m.what+", and as much behind it", m.hear(offered(0, 3, shares(90-share, 0, share))), kindSigned)
			}
		}
	}
}

// FA4: Allow holds behind what is refused, and behind what can't be, too; an Offer of its own lays the least share anew.
func TestAllowHolds(t *testing.T) {
	m := newScene(t, "holds", base()).join(2, shares(30, 20, 40))
	m.allow(20)
	wantKinds(t, "below", m.hear(offered(0, 1, shares(80, 0, 10))), kindRefuse)
	wantKinds(t, "what can't be", m.hear(offered(0, 1, shares(80, 0, 11))))
	wantKinds(t, "what is told", m.hear(factory.Msg{Kind: kindSigned, From: 0, Round: 1}))
	wantKinds(t, "at it", m.hear(offered(0, 1, shares(70, 0, 20))), kindSigned)
	wantKinds(t, "below it", m.hear(offered(0, 2, shares(71, 0, 19))), kindRefuse)
	m.allow(10)
	m.offer(shares(50, 0, 40))
	wantKinds(t, "behind an offer", m.hear(offered(0, 3, shares(51, 0, 39))), kindRefuse)
	m.allow(39)
	_, err := m.real.Offer(shares(9))
	wantErr(t, "an offer that can't be", err, api.ErrFunds)
	wantKinds(t, "behind it", m.hear(offered(0, 3, shares(51, 0, 39))), kindSigned)
}

// FA2 to FA4: a nil member: ErrArg, and nothing.
func TestNil(t *testing.T) {
	var m *factory.Member
	for range 2 {
		m.Allow(0)
		m.Allow(-1)
		m.Allow(math.MaxInt)
		told, err := m.Offer(shares(90))
		want(t, "Offer", msgsText(told), err, "", api.ErrArg)
		_, err = m.Offer(nil)
		wantErr(t, "Offer", err, api.ErrArg)
		for kind := -1; kind < 6; kind++ {
			told, err = m.Handle(factory.Msg{Kind: kind, From: kind, Round: kind, Outs: shares(90)})
			want(t, "Handle", msgsText(told), err, "", api.ErrArg)
		}
		want(t, "Last", m.Last(), nil, 0, 0)
		n, outs := m.Active()
		if n != 0 || len(outs) != 0 {
			t.Errorf("Active %d %s", n, outsText(outs))
		}
		all, err := m.Exit()
		want(t, "Exit", txsText(all), err, "", api.ErrArg)
	}
}

// FA4: Exit, word by word: of the round 0, and of one whose path is another.
func TestExit(t *testing.T) {
	s := joined(t, "exit", base(), shares(30, 60))
	first := tx.Tx{Lock: 20, Ins: []tx.In{{Point: tx.Point{Tx: api.Hash{9}, N: 3}}}, Outs: []tx.Out{out(95, []int{0, 1, 2})}}
	second := tx.Tx{Lock: 31, Ins: []tx.In{{Point: tx.At(first, 0)}}, Outs: shares(30, 60)}
	for _, m := range s.members {
		all, err := m.real.Exit()
		want(t, "Exit of the round 0", txsText(all), err, txsText([]tx.Tx{first, second}), 0)
	}
	for _, m := range s.members[1:] {
		m.hear(offered(0, 8, shares(0, 80, 10)))
	}
	s.outside(0, 8, shares(0, 80, 10))
	first.Lock, second.Lock = 18, 27
	second.Ins[0].Point, second.Outs = tx.At(first, 0), shares(0, 80, 10)
	for _, m := range s.members[1:] {
		all, err := m.real.Exit()
		want(t, "Exit of the round 8", txsText(all), err, txsText([]tx.Tx{first, second}), 0)
	}
	s.members[0].wantActive(0)
}

// FA1, FA4: a member that is made anew over a book in which it has signed already: it begins at the round 0 again, knows of no other round, and what it signs once more is there once.
func TestAnew(t *testing.T) {
	s := joined(t, "anew", base(), shares(30, 20, 40))
	for n := 1; n <= 4; n++ {
		told := s.members[0].offer(shares(30, 20, 40))
		for _, m := range s.members[1:] {
			m.hear(told[0])
		}
		for _, m := range s.members {
			m.wantActive(n)
		}
	}
	signatures := s.book.Len()
	m := s.join(1, shares(30, 20, 40))
	want(t, "Last", m.real.Last(), nil, 0, 0)
	m.wantActive(0)
	m.hear(offered(0, 2, shares(30, 20, 40)))
	m.wantActive(2)
	m.hear(offered(0, 3, shares(10, 40, 40)))
	m.wantActive(2)
	want(t, "Last", m.real.Last(), nil, 3, 0)
	if got := s.book.Len(); got != signatures+1 { // the last transaction of its other round 3
		t.Errorf("%d signatures, ahead %d", got, signatures)
	}
	s.join(0, shares(90)).wantActive(0)
	s.members[1].wantActive(4)
	other := newScene(t, "another book", base()).join(1, shares(30, 20, 40))
	other.wantActive(0)
}

// Rule 4: members over books apart know nothing of one another.
func TestBooksApart(t *testing.T) {
	a, b := newScene(t, "one", base()).join(0, shares(30, 60)), newScene(t, "another", base()).join(1, shares(30, 60))
	c := newScene(t, "a third", base()).join(2, shares(30, 60))
	told := a.offer(shares(30, 60))
	b.hear(told[0])
	c.hear(told[0])
	for _, m := range []*member{a, b, c} {
		m.wantActive(0)
		want(t, "Last", m.real.Last(), nil, 1, 0)
	}
}

// owned is a chain that has the output of a tree, under the keys of all.
func owned(t *testing.T, c tree.Config, b *oath.Book) *chain.Chain {
	t.Helper()
	l := ledger.New()
	wantErr(t, "Mint", l.Mint(c.Point, tx.Out{Amount: c.Amount, Cond: cond.All(c.Keys...)}, 0), 0)
	ch, err := chain.New(api.MaxList, l, b)
	wantErr(t, "chain.New", err, 0)
	return ch
}

// FA5: on a chain: of all rounds that all signed, whoever asks for an older one's Exit ahead of who asks for a newer one's is late.
func TestExitChain(t *testing.T) {
	s := joined(t, "chain", base(), shares(30, 60))
	exits := [][]tx.Tx{}
	for n := range 14 {
		all, err := s.members[0].real.Exit()
		wantErr(t, "Exit", err, 0)
		exits = append(exits, all)
		told := s.members[n%3].offer([]tx.Out{out(90, []int{n % 16})})
		for _, m := range s.members {
			m.allow(0)
			if m.who != n%3 {
				m.hear(told[0])
			}
		}
		for _, m := range s.members {
			m.wantActive(n + 1)
		}
	}
	for newer := range exits {
		for older := range newer + 1 {
			ch := owned(t, s.c, s.book)
			for range 60 {
				for _, x := range slices.Concat(exits[older], exits[newer]) {
					_ = ch.Submit(x) // what is too early, or was done, is refused
				}
				_, err := ch.Mine(64)
				wantErr(t, "Mine", err, 0)
			}
			for _, x := range exits[newer] {
				if ch.When(tx.ID(x)) != x.Lock {
					t.Errorf("the round %d, behind %d: in the block %d, and it waits for %d", newer, older, ch.When(tx.ID(x)), x.Lock)
				}
			}
		}
	}
}

// FA4: what not all have signed can't be done: a member that has signed a newer round is held to the active one.
func TestExitSigned(t *testing.T) {
	s := joined(t, "signed", base(), shares(30, 60))
	m := s.members[0]
	m.offer(shares(60, 30))
	s.members[1].allow(0)
	s.members[1].hear(offered(0, 1, shares(60, 30)))
	ch := owned(t, s.c, s.book)
	for range 60 {
		exit, err := m.real.Exit()
		wantErr(t, "Exit", err, 0)
		wanted, no := plainBuild(t, s.c, 1, shares(60, 30))
		wantErr(t, "the round 1", errOf(no), 0)
		for _, x := range slices.Concat(wanted[1:], exit) {
			_ = ch.Submit(x)
		}
		_, err = ch.Mine(64)
		wantErr(t, "Mine", err, 0)
	}
	want(t, "who has what", []int{ch.Ledger().Has(0), ch.Ledger().Has(1)}, nil, []int{30, 60}, 0)
}
