package factory_test

import (
	"fmt"
	"slices"
	"strings"
	"testing"

	"bayou/api"
	"bayou/cond"
	"bayou/factory"
	"bayou/oath"
	"bayou/tree"
	"bayou/tx"
)

// list is a list with its spare room: it can be written over, and told; of lists within it their lengths are told alone.
type list struct {
	name  string
	spoil func()
	text  func() string
}

// listOf is a list, and what it is written over with.
func listOf[T any](name string, l []T, bad T, text func(x T) string) list {
	l = l[:cap(l)]
	spoil := func() {
		for i := range l {
			l[i] = bad
		}
	}
	tell := func() string {
		b := &strings.Builder{}
		for _, x := range l {
			b.WriteString(text(x) + ";")
		}
		return b.String()
	}
	return list{name, spoil, tell}
}

// intList is a list of numbers.
func intList(name string, l []int) list {
	return listOf(name, l, -7, func(n int) string { return fmt.Sprint(n) })
}

// outLists are the lists of outputs.
func outLists(name string, outs []tx.Out) []list {
	l := []list{listOf(name+"Outs", outs, tx.Out{Amount: -7}, func(o tx.Out) string { return fmt.Sprint(o.Amount, len(o.Cond.Branches)) })}
	for i, o := range outs {
		l = append(l, listOf(fmt.Sprint(name, "Branches of ", i), o.Cond.Branches, cond.Branch{After: -7}, func(b cond.Branch) string {
			return fmt.Sprint(len(b.Keys), b.Lock, b.After, b.Older)
		}))
		for j, b := range o.Cond.Branches {
			l = append(l, intList(fmt.Sprint(name, "Keys of ", i, ", ", j), b.Keys))
		}
	}
	return l
}

// msgLists are the lists of messages.
func msgLists(told []factory.Msg) []list {
	l := []list{listOf("the messages", told, factory.Msg{Kind: -7}, func(x factory.Msg) string { return fmt.Sprint(x.Kind, x.From, x.Round, len(x.Outs)) })}
	for i, x := range told {
		l = append(l, outLists(fmt.Sprint("message ", i, ": "), x.Outs)...)
	}
	return l
}

// txLists are the lists of transactions.
func txLists(all []tx.Tx) []list {
	l := []list{listOf("the transactions", all, tx.Tx{Lock: -7}, func(x tx.Tx) string { return fmt.Sprint(x.Lock, len(x.Ins), len(x.Outs)) })}
	for rank, x := range all {
		l = append(l, outLists(fmt.Sprint("rank ", rank, ": "), x.Outs)...)
		l = append(l, listOf(fmt.Sprint("rank ", rank, ": Ins"), x.Ins, tx.In{Branch: -7}, func(in tx.In) string { return fmt.Sprint(in.Point, in.Branch, len(in.Secret)) }))
	}
	return l
}

// roomy is a list with spare room, in which something stands.
func roomy[T any](spare T, l ...T) []T { return append(slices.Clone(l), spare, spare, spare)[:len(l)] }

// tangled are outputs that have spare room, and whose lists are the same one, or pieces of one, or the tree's keys: the party 1 has 50 of them.
func tangled(keys []int) []tx.Out {
	branches := roomy(cond.Branch{After: 90}, cond.Branch{Keys: keys, Lock: api.Hash{1}}, cond.Branch{Keys: keys[1:2]}, cond.Branch{Keys: keys[:2], After: 3})
	return roomy(tx.Out{Amount: 90}, tx.Out{Amount: 20, Cond: cond.Cond{Branches: branches}}, tx.Out{Amount: 40, Cond: cond.Cond{Branches: branches[:1]}}, tx.Out{Amount: 30, Cond: cond.Cond{Branches: branches[1:2]}})
}

// held is all that can be asked of a member, as text, and what it tells behind that: so that what it keeps in secret is seen, too.
func held(t *testing.T, m *factory.Member, b *oath.Book) string {
	t.Helper()
	n, outs := m.Active()
	all, err := m.Exit()
	wantErr(t, "Exit", err, 0)
	text := fmt.Sprint(m.Last(), n, outsText(outs), txsText(all), b.Len())
	for _, from := range []int{0, 1, 2} {
		told, err := m.Handle(offered(from, m.Last()+1, shares(41, 49)))
		text += fmt.Sprint(msgsText(told), err)
		told, err = m.Handle(offered(from, m.Last()+1, shares(40, 50)))
		text += fmt.Sprint(msgsText(told), err)
	}
	return text + fmt.Sprint(b.Sums(1))
}

// asked is a call: the lists that it is given, and what it does: the lists of what it answers, the member and its book.
type asked struct {
	name string
	in   []list
	call func() ([]list, *factory.Member, *oath.Book)
}

// askedAll are all calls, each on a member of its own; all of what is handed in is tangled.
func askedAll(t *testing.T) []asked {
	c, keys := base(), roomy(9, 0, 1, 2)
	c.Keys = keys
	outs := tangled(keys)
	in := append(outLists("", outs), intList("Keys", keys))
	member := func() (*factory.Member, *oath.Book) {
		b := oath.New()
		m, err := factory.New(c, 1, b, outs)
		wantErr(t, "New", err, 0)
		return m, b
	}
	signed := func(m *factory.Member, b *oath.Book) { // so that the round 0, or the last one, is what all have signed
		for _, id := range b.Sums(1) {
			for _, who := range []int{0, 2} {
				wantErr(t, "Sign", b.Sign(who, id), 0)
			}
		}
	}
	on := func(name string, do func(m *factory.Member, b *oath.Book) []list) asked {
		return asked{name, in, func() ([]list, *factory.Member, *oath.Book) {
			m, b := member()
			l := do(m, b)
			return l, m, b
		}}
	}
	msg := func(kind int) factory.Msg { return factory.Msg{Kind: kind, From: 2, Round: 1, Outs: outs} }
	handle := func(m *factory.Member, x factory.Msg) []list {
		told, err := m.Handle(x)
		wantErr(t, "Handle", err, 0)
		return msgLists(told)
	}
	offer := func(m *factory.Member) []list {
		told, err := m.Offer(outs)
		wantErr(t, "Offer", err, 0)
		return msgLists(told)
	}
	return []asked{
		on("New", func(*factory.Member, *oath.Book) []list { return nil }),
		on("Offer", func(m *factory.Member, b *oath.Book) []list { return offer(m) }),
		on("Offer that all sign", func(m *factory.Member, b *oath.Book) []list { l := offer(m); signed(m, b); return l }),
		on("Handle of Offer", func(m *factory.Member, b *oath.Book) []list { return handle(m, msg(kindOffer)) }),
		on("Handle of Offer that all sign", func(m *factory.Member, b *oath.Book) []list {
			l := handle(m, msg(kindOffer))
			signed(m, b)
			return l
		}),
		on("Handle of Offer of less", func(m *factory.Member, b *oath.Book) []list {
			l := handle(m, offered(0, 1, roomy(out(9, []int{9}), shares(80, 10)...)))
			return l
		}),
		on("Handle of Signed", func(m *factory.Member, b *oath.Book) []list { return handle(m, msg(kindSigned)) }),
		on("Handle of Refuse", func(m *factory.Member, b *oath.Book) []list { return handle(m, msg(kindRefuse)) }),
		on("Active", func(m *factory.Member, b *oath.Book) []list { _, l := m.Active(); return outLists("", l) }),
		on("Active of the round 1", func(m *factory.Member, b *oath.Book) []list {
			offer(m)
			signed(m, b)
			_, l := m.Active()
			return outLists("", l)
		}),
		on("Exit", func(m *factory.Member, b *oath.Book) []list {
			all, err := m.Exit()
			wantErr(t, "Exit", err, 0)
			return txLists(all)
		}),
		on("Exit of the round 1", func(m *factory.Member, b *oath.Book) []list {
			offer(m)
			signed(m, b)
			all, err := m.Exit()
			wantErr(t, "Exit", err, 0)
			return txLists(all)
		}),
		on("Round", func(m *factory.Member, b *oath.Book) []list {
			p, err := factory.Round(c, 7)
			wantErr(t, "Round", err, 0)
			return []list{intList("the path", p)}
		}),
		on("Share", func(m *factory.Member, b *oath.Book) []list {
			want(t, "Share", factory.Share(outs, 1), nil, 50, 0)
			return nil
		}),
	}
}

// texts are lists as text.
func texts(l []list) []string {
	var all []string
	for _, x := range l {
		all = append(all, x.text())
	}
	return all
}

// wantSame holds lists against what they were ahead, but one of them.
func wantSame(t *testing.T, what string, l []list, ahead []string, but int) {
	t.Helper()
	if len(l) != len(ahead) {
		t.Fatalf("%s: %d lists, ahead %d", what, len(l), len(ahead))
	}
	for i, now := range texts(l) {
		if i != but && now != ahead[i] {
			t.Errorf("%s: %s has changed", what, l[i].name)
		}
	}
}

// Rule 3: an argument is not changed and not kept; an answer is new memory, and no two of its lists share any, spare room too; who changes what was handed in or told changes nothing of a member.
func TestMemory(t *testing.T) {
	for i := range askedAll(t) {
		holdMemory(t, func() asked { return askedAll(t)[i] })
	}
}

// holdMemory has each list of a call's arguments, and of its answer, written over, and looks at all others, and at the member.
func holdMemory(t *testing.T, fresh func() asked) {
	t.Helper()
	a := fresh()
	ahead := texts(a.in)
	got, m, b := a.call()
	wantSame(t, a.name+" itself", a.in, ahead, -1)
	first, kept := texts(got), held(t, m, b)
	wantSame(t, a.name+": the member goes on", got, first, -1)
	for i := range a.in {
		a := fresh()
		got, m, b := a.call()
		a.in[i].spoil()
		what := a.name + ": who changes " + a.in[i].name + " that was handed in"
		wantSame(t, what, got, first, -1)
		if now := held(t, m, b); now != kept {
			t.Errorf("%s: the member\n%s\nwant\n%s", what, now, kept)
		}
	}
	for i := range got {
		a := fresh()
		got, m, b := a.call()
		got[i].spoil()
		what := a.name + ": who changes " + got[i].name + " that was told"
		wantSame(t, what, got, first, i)
		wantSame(t, what+" (what was handed in)", a.in, ahead, -1)
		if now := held(t, m, b); now != kept {
			t.Errorf("%s: the member\n%s\nwant\n%s", what, now, kept)
		}
	}
}

// Rule 3: members share the book alone: who changes what one of them was told changes nothing of another one that was told the same.
func TestMembersApart(t *testing.T) {
	s := joined(t, "apart", base(), tangled([]int{0, 1, 2}))
	told := s.members[0].offer(tangled([]int{0, 1, 2}))
	for _, m := range s.members[1:] {
		m.allow(0)
		m.hear(told[0])
	}
	_, outs := s.members[1].real.Active()
	all, err := s.members[2].real.Exit()
	wantErr(t, "Exit", err, 0)
	for _, l := range slices.Concat(msgLists(told), outLists("", outs), txLists(all)) {
		l.spoil()
		s.what = "behind a change of " + l.name
		s.look()
	}
}

// Rule 3: beside an error nothing that was handed in is changed, and nothing of the member.
func TestMemoryErrors(t *testing.T) {
	for _, spoil := range []func(c *tree.Config, x *factory.Msg){
		func(c *tree.Config, x *factory.Msg) { c.Keys[0], x.Kind = 5, 9 },
		func(c *tree.Config, x *factory.Msg) { c.Depth, x.From = 9, 7 },
		func(c *tree.Config, x *factory.Msg) { c.Fee, x.Outs[0].Amount = 31, 91 },
		func(c *tree.Config, x *factory.Msg) {
			x.Outs[1].Cond.Branches[0].Keys[0], c.Point.N, x.Round = 16, 64, 40
		},
		func(c *tree.Config, x *factory.Msg) { c.Step, x.Outs[2].Cond.Branches[0].After = 0, -1 },
	} {
		c, x := base(), offered(0, 1, tangled([]int{0, 1, 2}))
		m := newScene(t, "errors", base()).join(1, tangled([]int{0, 1, 2}))
		c.Keys = roomy(9, 0, 1, 2)
		spoil(&c, &x)
		in := append(outLists("", x.Outs), intList("Keys", c.Keys))
		ahead := texts(in)
		_, err := factory.New(c, 1, oath.New(), x.Outs)
		if err == nil {
			t.Error("New of what can't be")
		}
		_, _ = factory.Round(c, 3)
		m.offer(append(slices.Clip(x.Outs), out(10, []int{1})))
		m.hear(x)
		wantSame(t, "errors", in, ahead, -1)
	}
}

// Rule 4: the same calls of other members over other books answer the same.
func TestSame(t *testing.T) {
	var ahead string
	for i := range 3 {
		var text string
		s := joined(t, "same", base(), payouts()[0])
		for n, m := range s.members {
			text += msgsText(m.offer(payouts()[n+3]))
			text += msgsText(m.hear(offered((n+1)%3, n+2, payouts()[n])))
		}
		for _, m := range s.members {
			text += held(t, m.real, s.book)
		}
		if i > 0 && text != ahead {
			t.Errorf("it answers\n%s\nahead\n%s", text, ahead)
		}
		ahead = text
	}
}
