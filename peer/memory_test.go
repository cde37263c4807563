package peer_test

import (
	"fmt"
	"slices"
	"strings"
	"testing"

	"bayou/api"
	"bayou/build"
	"bayou/cond"
	"bayou/oath"
	"bayou/peer"
	"bayou/state"
	"bayou/tx"
	"bayou/wire"
)

// list is a list with its spare room: it can be written over, and told; of lists within it their lengths are told alone.
type list struct {
	name  string
	spoil func()
	text  func() string
}

// listOf is a list, and what it is written over with.
func listOf[T any](name string, l []T, bad T, text func(x T) string) list {
	l = l[:cap(l)]
	return list{
		name,
		func() {
			for i := range l {
				l[i] = bad
			}
		},
		func() string {
			var b strings.Builder
			for _, x := range l {
				b.WriteString(text(x) + ";")
			}
			return b.String()
		},
	}
}

// text tells something as it is.
func text[T any](x T) string { return fmt.Sprint(x) }

// byteList is a list of bytes.
func byteList(name string, b []byte) list { return listOf(name, b, 0xbd, text[byte]) }

// stateLists are the lists of a state.
func stateLists(s state.State) []list {
	l := []list{
		listOf("Pays", s.Pays, state.Pay{ID: -7}, text[state.Pay]),
		listOf("Holds", s.Holds, state.Hold{ID: -7}, func(h state.Hold) string { return fmt.Sprint(h.ID, h.Amount, len(h.Keys)) }),
	}
	for i, h := range s.Holds {
		l = append(l, listOf(fmt.Sprint("Keys of hold ", i), h.Keys, -7, text[int]))
	}
	return l
}

// txLists are the lists of a transaction.
func txLists(t tx.Tx) []list {
	l := []list{
		listOf("Ins", t.Ins, tx.In{Branch: -7}, func(i tx.In) string { return fmt.Sprint(i.Point, i.Branch, len(i.Secret)) }),
		listOf("Outs", t.Outs, tx.Out{Amount: -7}, func(o tx.Out) string { return fmt.Sprint(o.Amount, len(o.Cond.Branches)) }),
	}
	for i, o := range t.Outs {
		l = append(l, listOf(fmt.Sprint("Branches of output ", i), o.Cond.Branches, cond.Branch{After: -7}, func(b cond.Branch) string { return fmt.Sprint(b.After, b.Older, b.Lock, len(b.Keys)) }))
		for j, b := range o.Cond.Branches {
			l = append(l, listOf(fmt.Sprint("Keys of branch ", j, " of output ", i), b.Keys, -7, text[int]))
		}
	}
	return l
}

// msgLists are the lists of messages.
func msgLists(l []wire.Msg) []list {
	all := []list{listOf("messages", l, wire.Msg{Kind: -7}, func(m wire.Msg) string { return fmt.Sprint(m.Kind, m.Number, m.Lock, m.Op.Kind) })}
	for _, m := range l {
		all = append(all, byteList("the Op's secret", m.Op.Secret), byteList("the secret", m.Secret))
	}
	return all
}

// roomy is a list with spare room, in which something stands.
func roomy[T any](spare T, l ...T) []T { return append(slices.Clone(l), spare, spare, spare)[:len(l)] }

// roomyState is a state apart whose lists have spare room.
func roomyState(s state.State) state.State {
	s.Pays = roomy(pay(90, 0, 90), s.Pays...)
	s.Holds = roomy(state.Hold{ID: 90}, s.Holds...)
	for i, h := range s.Holds {
		s.Holds[i].Keys = roomy(9, h.Keys...)
	}
	return s
}

// roomyOp is what is done, apart, with spare room.
func roomyOp(o wire.Op) wire.Op {
	o.Secret = roomy(byte(90), o.Secret...)
	return o
}

// roomyMsg is a message apart, with spare room.
func roomyMsg(m wire.Msg) wire.Msg {
	m.Op, m.Secret = roomyOp(m.Op), roomy(byte(90), m.Secret...)
	return m
}

// texts are lists as text.
func texts(l []list) []string {
	var all []string
	for _, x := range l {
		all = append(all, x.text())
	}
	return all
}

// wantSame holds lists against what they were ahead, but one of them.
func wantSame(t *testing.T, what string, l []list, ahead []string, but int) {
	t.Helper()
	for i, now := range texts(l) {
		if i != but && now != ahead[i] {
			t.Fatalf("%s: %s has changed", what, l[i].name)
		}
	}
}

// spoilAll writes lists over.
func spoilAll(l []list) {
	for _, x := range l {
		x.spoil()
	}
}

// Rule 3: Open does not change or keep its Config.
func TestMemoryOpen(t *testing.T) {
	for side := range 2 {
		c := config(side)
		c.First = roomyState(c.First)
		l := stateLists(c.First)
		ahead := texts(l)
		s := &site{t: t, store: newStore(t, 80), book: oath.New(), plain: begun(config(side), 40), seed: otherSeed}
		var err error
		s.peer, err = peer.Open(s.store, c, s.book)
		wantErr(t, "Open", err, 0)
		wantSame(t, "Open", l, ahead, -1)
		spoilAll(l)
		s.check("the Config changes")
		s.goOn("the Config changed")
		s.open("the Config changed")
	}
}

// handed is a call with what is handed in, and what it tells.
type handed struct {
	name string
	in   []list
	told []wire.Msg
}

// Rule 3: what is handed in to Propose and Handle is neither changed nor kept, and what they tell, and Resend behind them, is new memory.
func TestMemoryCalls(t *testing.T) {
	for side := range 2 {
		own, theirs := settle(theirPay(side)), settle(theirPay(1-side))
		for _, x := range []struct {
			name string
			scene
			gives bool
			o     *wire.Op // to propose; else the message is heard
			m     func(s *site) wire.Msg
		}{
			{"propose", scene{side, 2, idle}, false, &own, nil},
			{"hear Propose", scene{side, 2, idle}, false, nil, func(s *site) wire.Msg { return s.proposeMsg(theirs) }},
			{"hear junk", scene{side, 2, idle}, false, nil, func(s *site) wire.Msg { return s.proposeMsg(junk(5)) }},
			{"hear what is refused", scene{side, 2, idle}, false, nil, func(s *site) wire.Msg { return s.proposeMsg(theirBad(1 - side)) }},
			{"hear Agree", scene{side, 2, proposed}, true, nil, (*site).agreeMsg},
			{"hear Commit", scene{side, 2, agreed}, true, nil, (*site).commitMsg},
			{"hear Commit again", scene{side, 2, idle}, true, nil, func(s *site) wire.Msg { return wire.Msg{Kind: kindCommit, Number: 2, Secret: []byte("x")} }},
			{"hear Done", scene{side, 2, committed}, false, nil, (*site).doneMsg},
		} {
			call := func() (*site, handed) {
				s := at(t, x.scene)
				if x.gives && x.step != idle {
					s.give(s.plain.next())
				}
				if x.o != nil {
					o := roomyOp(*x.o)
					in := []list{byteList("the secret", o.Secret)}
					ahead := texts(in)
					told, err := s.peer.Propose(o)
					wantErr(t, x.name, err, 0)
					wantSame(t, x.name, in, ahead, -1)
					s.plain.propose(*x.o)
					return s, handed{x.name, in, told}
				}
				m := roomyMsg(x.m(s))
				in := []list{byteList("the Op's secret", m.Op.Secret), byteList("the secret", m.Secret)}
				ahead := texts(in)
				told, err := s.peer.Handle(m)
				wantErr(t, x.name, err, 0)
				wantSame(t, x.name, in, ahead, -1)
				s.plain.hear(x.m(s), s.has)
				return s, handed{x.name, in, told}
			}
			s, h := call()
			want := texts(msgLists(h.told))
			spoilAll(h.in)
			wantSame(t, x.name+": what was handed in changes", msgLists(h.told), want, -1)
			s.check(x.name + ": what was handed in has changed")
			if x.m != nil {
				s.hear(x.name+", again: what was handed in has changed", x.m(s))
			}
			s.goOn(x.name + ": what was handed in has changed")
			s, h = call()
			in := texts(h.in)
			spoilAll(msgLists(h.told))
			wantSame(t, x.name+": what was told changes", h.in, in, -1)
			s.check(x.name + ": what was told has changed")
			s.goOn(x.name + ": what was told has changed")
		}
	}
}

// answer is a call that tells lists.
type answer struct {
	name string
	call func(s *site) []list
}

// answers are all calls that tell lists.
func answers(t *testing.T) []answer {
	return []answer{
		{"State", func(s *site) []list { return stateLists(s.peer.State()) }},
		{"Old", func(s *site) []list {
			x, err := s.peer.Old(1)
			wantErr(t, "Old", err, 0)
			return stateLists(x)
		}},
		{"Old of now", func(s *site) []list {
			x, err := s.peer.Old(s.plain.n())
			wantErr(t, "Old", err, 0)
			return stateLists(x)
		}},
		{"Known", func(s *site) []list {
			x, err := s.peer.Known(0)
			wantErr(t, "Known", err, 0)
			return []list{byteList("the secret", x)}
		}},
		{"Mine", func(s *site) []list {
			x, err := s.peer.Mine()
			wantErr(t, "Mine", err, 0)
			return txLists(x)
		}},
		{"Resend", func(s *site) []list {
			x, err := s.peer.Resend()
			wantErr(t, "Resend", err, 0)
			return msgLists(x)
		}},
		{"Agreed", func(s *site) []list {
			x, _, _ := s.peer.Agreed()
			return stateLists(x)
		}},
		{"Secret", func(s *site) []list { return []list{byteList("the secret", peer.Secret("a", 1))} }},
	}
}

// Rule 3: what is told is new memory, spare room too, and no two lists of it share any.
func TestMemoryAnswers(t *testing.T) {
	for _, c := range scenes() {
		if c.n != 2 {
			continue
		}
		for _, a := range answers(t) {
			s := at(t, c)
			first := texts(a.call(s))
			for i := range a.call(s) {
				got, again := a.call(s), a.call(s)
				got[i].spoil()
				what := fmt.Sprint(c, ", ", a.name, ": who changes ", got[i].name)
				wantSame(t, what, got, first, i)
				wantSame(t, what+" (another answer)", again, first, -1)
				wantSame(t, what+" (a later answer)", a.call(s), first, -1)
				s.check(what)
			}
			s.goOn(a.name)
		}
	}
}

// Rule 3: a proposal with a secret is told again by Resend as it was, whatever became of what was handed in and told.
func TestMemoryResend(t *testing.T) {
	s := newSite(t, config(0), 80)
	o := roomyOp(settle(theirPay(0)))
	told, err := s.peer.Propose(o)
	wantErr(t, "Propose", err, 0)
	clear(o.Secret)
	clear(told[0].Op.Secret)
	s.plain.propose(settle(theirPay(0)))
	s.check("cleared")
	again, err := s.peer.Resend()
	wantErr(t, "Resend", err, 0)
	clear(again[0].Op.Secret)
	s.check("cleared again")
	s.open("cleared again")
}

// Rule 4: two sides that are handed the same tell the same, and one does not hang on another.
func TestAlone(t *testing.T) {
	for _, c := range scenes() {
		a, b := at(t, c), at(t, c)
		a.goOn("the one goes on")
		b.check("the other one stays")
		b.goOn("the other one goes on, too")
		if !same(a.peer.State(), b.peer.State()) || !slices.Equal(a.book.Sums(a.key()), b.book.Sums(b.key())) {
			t.Errorf("%s: %v, and %v", c, a.peer.State(), b.peer.State())
		}
	}
}

// The objects that a side goes on using: the book and the store that were handed in, no copies of them.
func TestObjects(t *testing.T) {
	s := newSite(t, config(1), 80)
	s.hear("propose", s.proposeMsg(move(20)))
	id, err := s.plain.mine(s.plain.next())
	wantErr(t, "a commitment", err, 0)
	other, err := build.Commit(s.plain.c.Params, s.plain.next(), 0, lockOf(ownSeed, 1))
	wantErr(t, "the other side's own", err, 0)
	wantErr(t, "Sign", s.book.Sign(s.otherKey(), tx.ID(other)), 0)
	s.gave = append(s.gave, tx.ID(other))
	s.hear("the other side has signed its own", s.commitMsg())
	wantErr(t, "Sign", s.book.Sign(s.otherKey(), id), 0)
	s.gave = append(s.gave, id)
	s.hear("signed", s.commitMsg())
}

// PE3: signatures of the side itself, and of others, are none of the other side's.
func TestSignedByOthers(t *testing.T) {
	for side := range 2 {
		for _, step := range []int{proposed, agreed} {
			s := at(t, scene{side, 1, step})
			id, err := s.plain.mine(s.plain.next())
			wantErr(t, "a commitment", err, 0)
			for who := range 16 {
				if who != s.otherKey() {
					wantErr(t, "Sign", s.book.Sign(who, id), 0)
				}
			}
			m := s.commitMsg()
			if step == proposed {
				m = s.agreeMsg()
			}
			_, err = s.peer.Handle(m)
			wantErr(t, "all but the other side have signed", err, api.ErrSign)
			wantErr(t, "Sign", s.book.Sign(s.otherKey(), id), 0)
			_, err = s.peer.Handle(m)
			wantErr(t, "the other side, too", err, 0)
		}
	}
}
