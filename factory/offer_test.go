package factory_test

import (
	"fmt"
	"math"
	"slices"
	"testing"

	"bayou/api"
	"bayou/factory"
	"bayou/tree"
	"bayou/tx"
)

// offered is an Offer of a round.
func offered(from, n int, outs []tx.Out) factory.Msg {
	return factory.Msg{Kind: kindOffer, From: from, Round: n, Outs: outs}
}

// upto has a member come to a round by offers of another one, of the same outputs.
func (m *member) upto(n int, outs []tx.Out) {
	m.t.Helper()
	for m.last() < n {
		m.hear(offered(other(m.c.Keys, m.who), min(n, m.last()+mostAhead), outs))
	}
}

// wantKinds holds what was told against the kinds that must be.
func wantKinds(t *testing.T, what string, told []factory.Msg, kinds ...int) {
	t.Helper()
	var got []int
	for _, x := range told {
		got = append(got, x.Kind)
	}
	if !slices.Equal(got, kinds) {
		t.Errorf("%s: it tells %s, want kinds %v", what, msgsText(told), kinds)
	}
}

// The example of the chapter: three members; one offers, the two others hear it: all have signed the round 1.
func TestExample(t *testing.T) {
	s := joined(t, "three", base(), shares(30, 60))
	told := s.members[0].offer(shares(30, 50, 10))
	wantKinds(t, "the offer", told, kindOffer, kindSigned)
	for i, m := range s.members[1:] {
		n, outs := m.real.Active()
		if n != 0 || outsText(outs) != outsText(shares(30, 60)) {
			t.Errorf("Active %d ahead of all", n)
		}
		m.allow(0)
		wantKinds(t, fmt.Sprint("the member ", i+1), m.hear(told[0]), kindSigned)
		wantKinds(t, "Signed", m.hear(told[1]))
	}
	for _, m := range s.members {
		n, outs := m.real.Active()
		if n != 1 || outsText(outs) != outsText(shares(30, 50, 10)) {
			t.Errorf("Active %d %s behind all", n, outsText(outs))
		}
	}
}

// FA2: what Offer tells, word by word, and that it signs the last transaction first.
func TestOffer(t *testing.T) {
	m := newScene(t, "one", base()).join(1, shares(30, 20, 40))
	outs := []tx.Out{out(50, []int{1}, []int{0, 2}), out(40, []int{2})}
	outs[0].Cond.Branches[1].After = 7
	told := m.offer(outs)
	if got, wanted := msgsText(told), "kind 1 of 1 round 1: out 50 | [1] 00000000 0 0 | [0 2] 00000000 7 0 out 40 | [2] 00000000 0 0; kind 2 of 1 round 1:; "; got != wanted {
		t.Errorf("it tells %s, want %s", got, wanted)
	}
	path, err := factory.Round(base(), 1)
	wantErr(t, "Round", err, 0)
	all, err := tree.Build(base(), path, outs)
	wantErr(t, "Build", err, 0)
	sums := m.book.Sums(1)
	if len(sums) != 3 || sums[2] != tx.ID(all[1]) || sums[1] != tx.ID(all[0]) {
		t.Errorf("it has signed %x", sums) // the first transaction of the round 1 is that of the round 0
	}
	for i := range 9 {
		wantKinds(t, "again", m.offer(outs), kindOffer, kindSigned)
		want(t, "Last", m.real.Last(), nil, i+2, 0)
	}
}

// FA2: each error of Offer, at some rounds; nothing is signed or told then, and the member goes on.
func TestOfferFaults(t *testing.T) {
	m := newScene(t, "one", base()).join(1, shares(30, 20, 40))
	type asked struct{ outs []tx.Out }
	for range 5 {
		outFaults(0, func(x *asked) *[]tx.Out { return &x.outs }).each(func() asked { return asked{} }, func(what string, x asked, no api.Errno) {
			ahead := m.last()
			m.what = what
			_, err := m.real.Offer(x.outs)
			wantErr(t, what, err, no)
			wantKinds(t, what, m.offer(x.outs))
			want(t, what, m.real.Last(), nil, ahead, 0)
		})
		wantKinds(t, "goes on", m.offer(shares(10, 80)), kindOffer, kindSigned)
	}
}

// FA2: behind the last path there is no round, whatever the outputs; nor behind the round 2,000.
func TestOfferLast(t *testing.T) {
	for _, x := range []struct {
		c    tree.Config
		last int
		no   api.Errno
	}{{base(), 35, api.ErrSlot}, {wide(), 2000, api.ErrRange}} {
		m := newScene(t, fmt.Sprint(x.c), x.c).join(1, shares(30, 20, 40))
		m.upto(x.last-2, shares(30, 20, 40))
		for n := x.last - 1; n <= x.last; n++ {
			told := m.offer(shares(30, 20, 40))
			wantKinds(t, "up to the last one", told, kindOffer, kindSigned)
			want(t, "the round", told[0].Round, nil, n, 0)
		}
		for _, outs := range [][]tx.Out{shares(30, 20, 40), shares(90), nil, shares(9, 81)} {
			_, err := m.real.Offer(outs)
			wantErr(t, fmt.Sprint(x.c, ": behind the last path"), err, x.no)
			wantKinds(t, "behind the last path", m.offer(outs))
		}
		want(t, "Last", m.real.Last(), nil, x.last, 0)
	}
}

// FA2: a tree of one path has the round 0 alone.
func TestOfferOnePath(t *testing.T) {
	c := base()
	c.Last = c.First
	m := newScene(t, "one path", c).join(1, shares(30, 20, 40))
	_, err := m.real.Offer(shares(30, 20, 40))
	wantErr(t, "Offer", err, api.ErrSlot)
	_, err = m.real.Handle(offered(0, 1, shares(30, 20, 40)))
	wantErr(t, "Handle", err, api.ErrSlot)
	m.offer(shares(30, 20, 40))
	m.hear(offered(0, 1, shares(30, 20, 40)))
}

// FA2: it signs what it offers, whatever its share is there; its least share is what it has there, be that less or more.
func TestOfferLeast(t *testing.T) {
	for _, ahead := range []int{0, 10, 30, 90} {
		for _, offer := range []int{0, 10, 29, 30, 31, 80, 90} {
			for _, behind := range []int{0, 10, 28, 29, 30, 31, 79, 80, 90} {
				m := newScene(t, fmt.Sprint(ahead, offer, behind), base()).join(0, shares(ahead, 90-ahead))
				wantKinds(t, m.what, m.offer(shares(offer, 90-offer)), kindOffer, kindSigned)
				kind := kindSigned
				if behind < offer {
					kind = kindRefuse
				}
				wantKinds(t, m.what, m.hear(offered(2, 2, shares(behind, 90-behind))), kind)
			}
		}
	}
}

// heard is what Handle is given: a message, by a member that may be nil.
type heard struct {
	nobody bool
	x      factory.Msg
}

// handleFaults are those of Handle, in its order, of a member 1 that has signed the round 25 of base, which has 35.
func handleFaults() faults[heard] {
	var l faults[heard]
	l.add(0, api.ErrArg, "member", "a nil member", func(h *heard) { h.nobody = true })
	for _, kind := range []int{0, -1, 4, 5, 257, 1 << 32, math.MinInt, math.MaxInt} {
		l.add(0, api.ErrArg, "Kind", fmt.Sprint("Kind ", kind), func(h *heard) { h.x.Kind = kind })
	}
	for _, from := range []int{1, -1, 3, 15, 16, math.MinInt, math.MaxInt} {
		l.add(1, api.ErrParty, "From", fmt.Sprint("From ", from), func(h *heard) { h.x.From = from })
	}
	for _, n := range []int{25, 24, 1, 0, -1, math.MinInt} {
		l.add(2, api.ErrOld, "Round", fmt.Sprint("Round ", n), func(h *heard) { h.x.Round = n })
	}
	for _, n := range []int{42, 43, 2000, 2001, 1 << 32, math.MaxInt} {
		l.add(3, api.ErrState, "Round", fmt.Sprint("Round ", n), func(h *heard) { h.x.Round = n })
	}
	for _, n := range []int{36, 37, 41} {
		l.add(4, api.ErrSlot, "Round", fmt.Sprint("Round ", n), func(h *heard) { h.x.Round = n })
	}
	return append(l, outFaults(5, func(h *heard) *[]tx.Out { return &h.x.Outs })...)
}

// FA3: each error of Handle alone, and each two at once, of messages with a share above, at and below its least one; nothing is signed or told then.
func TestHandleFaults(t *testing.T) {
	m := newScene(t, "one", base()).join(1, shares(30, 20, 40))
	m.upto(25, shares(30, 20, 40))
	for _, share := range []int{20, 30, 10} {
		fresh := func() heard { return heard{x: offered(0, 26, shares(90-share, share))} }
		handleFaults().each(fresh, func(what string, h heard, no api.Errno) {
			m.what = what
			if h.nobody {
				got, err := (*factory.Member)(nil).Handle(h.x)
				want(t, what, msgsText(got), err, "", no)
				return
			}
			_, err := m.real.Handle(h.x)
			wantErr(t, what, err, no)
			wantKinds(t, what, m.hear(h.x))
		})
	}
	want(t, "Last", m.real.Last(), nil, 25, 0)
	wantKinds(t, "goes on", m.hear(offered(0, 26, shares(70, 20))), kindSigned)
}

// FA3: Rounds around the last one that was signed, and how far above it one may be.
func TestHandleRounds(t *testing.T) {
	for _, x := range []struct {
		last, n int
		no      api.Errno
	}{
		{0, 0, api.ErrOld}, {0, -1, api.ErrOld}, {0, 1, 0}, {0, 2, 0}, {0, 15, 0}, {0, 16, 0}, {0, 17, api.ErrState}, {0, 18, api.ErrState}, {0, 2001, api.ErrState}, {0, math.MaxInt, api.ErrState},
		{1, 1, api.ErrOld}, {1, 0, api.ErrOld}, {1, 2, 0}, {1, 17, 0}, {1, 18, api.ErrState},
		{100, 100, api.ErrOld}, {100, 99, api.ErrOld}, {100, 101, 0}, {100, 116, 0}, {100, 117, api.ErrState},
		{1984, 2000, 0}, {1984, 2001, api.ErrState}, {1985, 2000, 0}, {1985, 2001, api.ErrRange}, {1985, 2002, api.ErrState}, {1990, 2006, api.ErrRange}, {1990, 2007, api.ErrState},
		{2000, 2000, api.ErrOld}, {2000, 2001, api.ErrRange}, {2000, 2016, api.ErrRange}, {2000, 2017, api.ErrState}, {1999, 2000, 0},
	} {
		m := newScene(t, fmt.Sprint(x), wide()).join(2, shares(30, 20, 40))
		m.upto(x.last, shares(30, 20, 40))
		got, err := m.real.Handle(offered(0, x.n, nil)) // outputs that can't be are told behind what is wrong of the round
		no := x.no
		if no == 0 {
			no = api.ErrFunds
		}
		want(t, m.what, msgsText(got), err, "", no)
		told := m.hear(offered(0, x.n, shares(30, 20, 40)))
		if x.no != 0 {
			wantKinds(t, m.what, told)
			want(t, m.what, m.real.Last(), nil, x.last, 0)
			continue
		}
		wantKinds(t, m.what, told, kindSigned)
		want(t, m.what, told[0].Round, nil, x.n, 0)
		want(t, m.what, m.real.Last(), nil, x.n, 0)
	}
}

// FA3: its share below, at and above its least share: Refuse changes nothing; what it signs lays its least share anew.
func TestHandleShare(t *testing.T) {
	m := newScene(t, "one", base()).join(1, shares(30, 20, 40))
	for _, x := range []struct{ n, share, kind int }{
		{1, 19, kindRefuse}, {1, 0, kindRefuse}, {1, 20, kindSigned}, {2, 19, kindRefuse}, {3, 19, kindRefuse}, {2, 50, kindSigned}, {3, 49, kindRefuse}, {3, 20, kindRefuse}, {4, 50, kindSigned}, {5, 49, kindRefuse}, {20, 51, kindSigned}, {21, 50, kindRefuse}, {21, 90, kindSigned}, {22, 80, kindRefuse},
	} {
		m.what = fmt.Sprint(x)
		last := m.last()
		told := m.hear(offered(2, x.n, shares(90-x.share, x.share)))
		wantKinds(t, m.what, told, x.kind)
		if len(told) == 1 && (told[0].From != 1 || told[0].Round != x.n || told[0].Outs != nil) {
			t.Errorf("%s: it tells %s", m.what, msgsText(told))
		}
		if x.kind == kindSigned {
			last = x.n
		}
		want(t, m.what, m.real.Last(), nil, last, 0)
	}
}

// FA3: a share is what it has at once, of all its outputs; what it has later, with others, or by a secret is none.
func TestHandleShareAtOnce(t *testing.T) {
	locked := out(20, []int{1})
	locked.Cond.Branches[0].Lock = api.Hash{5}
	later := out(20, []int{1})
	later.Cond.Branches[0].After = 1
	older := out(20, []int{1})
	older.Cond.Branches[0].Older = 1
	for _, x := range []struct {
		what string
		kind int
		outs []tx.Out
	}{
		{"by a secret", kindRefuse, []tx.Out{locked, out(70, []int{0})}},
		{"later", kindRefuse, []tx.Out{later, out(70, []int{0})}},
		{"older", kindRefuse, []tx.Out{older, out(70, []int{0})}},
		{"with another", kindRefuse, []tx.Out{out(90, []int{0, 1})}},
		{"of two", kindSigned, []tx.Out{out(10, []int{1}), out(70, []int{0}), out(10, []int{1})}},
		{"of two, one of them later", kindRefuse, []tx.Out{out(10, []int{1}), out(60, []int{0}), later}},
		{"beside another's", kindSigned, []tx.Out{out(20, []int{0}, []int{1}), out(70, []int{2})}},
		{"all", kindSigned, []tx.Out{out(90, []int{1})}},
	} {
		m := newScene(t, x.what, base()).join(1, shares(30, 20, 40))
		wantKinds(t, x.what, m.hear(offered(2, 1, x.outs)), x.kind)
	}
}

// FA3: Signed and Refuse, of any round and with any outputs: nothing, and nothing is changed.
func TestHandleTold(t *testing.T) {
	m := newScene(t, "one", base()).join(1, shares(30, 20, 40))
	m.upto(5, shares(30, 20, 40))
	for _, kind := range []int{kindSigned, kindRefuse} {
		for _, n := range []int{math.MinInt, -1, 0, 4, 5, 6, 21, 22, 36, 2001, math.MaxInt} {
			for _, outs := range [][]tx.Out{nil, shares(30, 20, 40), shares(90), shares(9)} {
				m.what = fmt.Sprint(kind, " of the round ", n)
				got, err := m.real.Handle(factory.Msg{Kind: kind, From: 2, Round: n, Outs: outs})
				want(t, m.what, msgsText(got), err, "", 0)
				wantKinds(t, m.what, m.hear(factory.Msg{Kind: kind, From: 0, Round: n, Outs: outs}))
			}
		}
	}
	wantKinds(t, "its least share", m.hear(offered(0, 6, shares(30, 10, 50))), kindRefuse)
	wantKinds(t, "its least share", m.hear(offered(0, 6, shares(30, 20, 40))), kindSigned)
}

// FA3: who offers need be no member of the same book, and its own signature is not asked for; rounds may be offered by anybody in turn.
func TestHandleFrom(t *testing.T) {
	c := base()
	c.Keys = []int{2, 5, 11, 15}
	m := newScene(t, "four", c).join(5, []tx.Out{out(90, []int{5})})
	for n, from := range []int{2, 11, 15, 11, 2} {
		wantKinds(t, "an offer", m.hear(offered(from, n+1, []tx.Out{out(90, []int{5})})), kindSigned)
	}
	for _, from := range []int{5, 0, 3, 12, 16} {
		_, err := m.real.Handle(offered(from, 6, []tx.Out{out(90, []int{5})}))
		wantErr(t, fmt.Sprint("From ", from), err, api.ErrParty)
	}
}
