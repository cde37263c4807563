package splice_test

import (
	"fmt"
	"slices"
	"strings"
	"testing"

	"bayou/api"
	"bayou/build"
	"bayou/cond"
	"bayou/splice"
	"bayou/state"
	"bayou/tx"
)

// list is a list with its spare room: it can be written over, and told; of lists within it their lengths are told alone.
type list struct {
	name  string
	spoil func()
	text  func() string
}

// listOf is a list, and what it is written over with.
func listOf[T any](name string, l []T, bad T, text func(x T) string) list {
	l = l[:cap(l)]
	spoil := func() {
		for i := range l {
			l[i] = bad
		}
	}
	tell := func() string {
		b := &strings.Builder{}
		for _, x := range l {
			b.WriteString(text(x) + ";")
		}
		return b.String()
	}
	return list{name, spoil, tell}
}

// text tells something as it is.
func text[T any](x T) string { return fmt.Sprint(x) }

// outLists are the lists of outputs.
func outLists(name string, outs []tx.Out) []list {
	l := []list{listOf(name+"Outs", outs, tx.Out{Amount: -7}, func(o tx.Out) string { return fmt.Sprint(o.Amount, len(o.Cond.Branches)) })}
	for i, o := range outs {
		l = append(l, listOf(fmt.Sprint(name, "Branches of ", i), o.Cond.Branches, cond.Branch{After: -7}, func(b cond.Branch) string {
			return fmt.Sprint(len(b.Keys), b.Lock, b.After, b.Older)
		}))
		for j, b := range o.Cond.Branches {
			l = append(l, listOf(fmt.Sprint(name, "Keys of ", i, ", ", j), b.Keys, -7, text[int]))
		}
	}
	return l
}

// stateLists are the lists of a state.
func stateLists(s state.State) []list {
	l := []list{
		listOf("Pays", s.Pays, state.Pay{ID: -7}, text[state.Pay]),
		listOf("Holds", s.Holds, state.Hold{ID: -7}, func(h state.Hold) string { return fmt.Sprint(h.ID, h.Amount, len(h.Keys)) }),
	}
	for i, h := range s.Holds {
		l = append(l, listOf(fmt.Sprint("Keys of hold ", i), h.Keys, -7, text[int]))
	}
	return l
}

// dealLists are the lists of a deal.
func dealLists(d splice.Deal) []list {
	l := stateLists(d.State)
	for side := range 2 {
		name := fmt.Sprint("side ", side, ": ")
		l = append(l, listOf(name+"Ins", d.Ins[side], splice.Coin{Amount: -7}, text[splice.Coin]))
		l = append(l, outLists(name, d.Outs[side])...)
	}
	return l
}

// txLists are the lists of a transaction.
func txLists(x tx.Tx) []list {
	l := append(outLists("", x.Outs), listOf("Ins", x.Ins, tx.In{Branch: -7}, func(in tx.In) string { return fmt.Sprint(in.Point, in.Branch, len(in.Secret)) }))
	for i, in := range x.Ins {
		l = append(l, listOf(fmt.Sprint("Secret of ", i), in.Secret, 0xbd, text[byte]))
	}
	return l
}

// roomy is a list with spare room, in which something stands.
func roomy[T any](spare T, l ...T) []T { return append(slices.Clone(l), spare, spare, spare)[:len(l)] }

// roomyOuts are outputs that have lists in common, or pieces of one, all with spare room.
func roomyOuts(keys []int) []tx.Out {
	branches := roomy(cond.Branch{After: 90}, cond.Branch{Keys: keys, Lock: api.Hash{1}}, cond.Branch{Keys: keys, After: 3}, cond.Branch{Keys: keys[:2]})
	of := func(amount int, l []cond.Branch) tx.Out {
		return tx.Out{Amount: amount, Cond: cond.Cond{Branches: l}}
	}
	return roomy(tx.Out{Amount: 90}, of(12, branches), of(13, branches), of(14, branches[1:2]))
}

// roomyDeal is a deal whose lists have spare room; its sides, and the channel's holds, have some in common.
func roomyDeal() splice.Deal {
	keys := roomy(9, 1, 2, 4)
	s := state.State{
		Has:   [2]int{150, 160},
		Pays:  roomy(pay(90, 0, 90), pay(2, 0, 20), pay(5, 1, 30)),
		Holds: roomy(hold(90, 90, 9), hold(1, 15, keys...), state.Hold{ID: 2, Amount: 15, Keys: keys}, state.Hold{ID: 4, Amount: 25, Keys: keys[:1]}),
	}
	outs := roomyOuts(keys)
	coins := roomy(coin(90, 9, 90), coin(1, 0, 20), coin(1, 1, 30), coin(2, 0, 40))
	return splice.Deal{Params: params(s, 5), State: s, Ins: [2][]splice.Coin{coins[:1], coins[1:]}, Outs: [2][]tx.Out{outs, outs[1:2]}}
}

// asked is a call with its arguments: their lists, and the lists of what it answers.
type asked struct {
	name string
	in   []list
	call func() []list
}

// askedAll are all calls, by a side.
func askedAll(t *testing.T, side int) []asked {
	d := roomyDeal()
	o := roomyOuts(d.State.Holds[0].Keys)[0]
	closed := d
	closed.Ready = [2]bool{true, true}
	in := dealLists(d)
	answer := func(d splice.Deal, err error) []list { wantErr(t, "an answer", err, 0); return dealLists(d) }
	return []asked{
		{"New", in, func() []list { return answer(splice.New(d.Params, d.State)) }},
		{"Bring", in, func() []list { return answer(splice.Bring(d, side, coin(5, 0, 50))) }},
		{"Take", append(in, outLists("the output: ", []tx.Out{o})[1:]...), func() []list { return answer(splice.Take(d, side, o)) }},
		{"Close", in, func() []list { return answer(splice.Close(d, side)) }},
		{"Gain", in, func() []list { _, err := splice.Gain(d, side); wantErr(t, "Gain", err, 0); return nil }},
		{"Build", in, func() []list {
			x, _, s, err := splice.Build(closed)
			wantErr(t, "Build", err, 0)
			return append(txLists(x), stateLists(s)...)
		}},
	}
}

// texts are lists as text.
func texts(l []list) []string {
	var all []string
	for _, x := range l {
		all = append(all, x.text())
	}
	return all
}

// wantSame holds lists against what they were ahead, but one of them.
func wantSame(t *testing.T, what string, l []list, ahead []string, but int) {
	t.Helper()
	for i, now := range texts(l) {
		if i != but && now != ahead[i] {
			t.Errorf("%s: %s has changed", what, l[i].name)
		}
	}
}

// Rule 3: an argument is not changed and not kept; an answer is new memory, and no two of its lists share any, spare room too.
func TestMemory(t *testing.T) {
	for side := range 2 {
		for i := range askedAll(t, side) {
			holdMemory(t, func() asked { return askedAll(t, side)[i] })
		}
	}
}

// holdMemory has each list of a call's arguments, and of its answer, written over, and looks at all others.
func holdMemory(t *testing.T, fresh func() asked) {
	t.Helper()
	a := fresh()
	ahead := texts(a.in)
	got := a.call()
	wantSame(t, a.name+" itself", a.in, ahead, -1)
	first := texts(got)
	for i := range a.in {
		a := fresh()
		got := a.call()
		a.in[i].spoil()
		wantSame(t, a.name+": who changes "+a.in[i].name+" that was handed in", got, first, -1)
	}
	for i := range got {
		a := fresh()
		got, again := a.call(), a.call()
		got[i].spoil()
		what := a.name + ": who changes " + got[i].name + " that was told"
		wantSame(t, what, got, first, i)
		wantSame(t, what+" (another answer)", again, first, -1)
		wantSame(t, what+" (what was handed in)", a.in, ahead, -1)
	}
}

// Rule 3: deals that are made from the same one, whatever room is behind its lists, have nothing in common; nor have those that are made from them.
func TestTwoDeals(t *testing.T) {
	var deals []splice.Deal
	var wanted []string
	grow := func(d splice.Deal, side, n int) {
		c, o := coin(5, n, 50+n), out(60+n, []int{n % 16})
		brought, err := splice.Bring(d, side, c)
		wantErr(t, "Bring", err, 0)
		plain, _ := plainBring(d, side, c)
		deals, wanted = append(deals, brought), append(wanted, fmt.Sprint(plain))
		taken, err := splice.Take(d, side, o)
		wantErr(t, "Take", err, 0)
		plain, _ = plainTake(t, d, side, o)
		deals, wanted = append(deals, taken), append(wanted, fmt.Sprint(plain))
	}
	first := roomyDeal()
	ahead := texts(dealLists(first))
	for n := range 4 {
		grow(first, n%2, n)
	}
	for i, d := range slices.Clone(deals) {
		for n := range 4 {
			grow(d, n%2, 4+4*i+n)
		}
	}
	for i, d := range deals {
		if fmt.Sprint(d) != wanted[i] {
			t.Errorf("the deal %d is %v, want %s", i, d, wanted[i])
		}
	}
	wantSame(t, "the deal that they are made from", dealLists(first), ahead, -1)
}

// Rule 3: beside an error, too, nothing that was handed in is changed.
func TestMemoryErrors(t *testing.T) {
	for i, spoil := range []func(s *scene){
		func(s *scene) { s.side = 2 },
		func(s *scene) { s.d.Ready[0] = true },
		func(s *scene) { s.c.Point = s.d.Params.Point },
		func(s *scene) { s.o.Cond.Branches[0].Keys[0] = 16 },
		func(s *scene) { s.d.Ins[0] = roomy(coin(90, 9, 90), coins(30, many(30, 10)...)...) },
		func(s *scene) { s.d.Outs[0] = roomy(out(90), outs(many(30, 10)...)...) },
		func(s *scene) { s.d.Ready, s.d.Params.Amount = [2]bool{true, true}, 7 },
		func(s *scene) { s.d.Ready, s.d.Params.Point.N = [2]bool{true, true}, 64 },
		func(s *scene) { s.d.Ready, s.d.State.Number = [2]bool{true, true}, maxHeight },
		func(s *scene) { s.d.Ready, s.d.Ins[1][0].Amount = [2]bool{true, true}, maxAmount+1 },
	} {
		d := roomyDeal()
		s := scene{what: fmt.Sprint("fault ", i), d: d, c: coin(5, 0, 50), o: roomyOuts(roomy(9, 1, 2, 4))[0]}
		spoil(&s)
		in := append(dealLists(s.d), outLists("the output: ", []tx.Out{s.o})...)
		ahead := texts(in)
		s.try(t)
		wantSame(t, s.what, in, ahead, -1)
	}
}

// Rule 4: what a call answers hangs on its arguments alone: empty lists are as nil ones.
func TestEmpty(t *testing.T) {
	empty := splice.Deal{Params: build.Params{Point: point(9, 3), Amount: 110, Keys: [2]int{7, 3}, Delay: 5, Fee: 5}, State: state.State{Has: [2]int{50, 60}}, Ready: [2]bool{true, true}}
	wanted, err := buildOf(empty)
	wantErr(t, "Build", err, 0)
	empty.State.Pays, empty.State.Holds = []state.Pay{}, []state.Hold{}
	for side := range 2 {
		empty.Ins[side], empty.Outs[side] = []splice.Coin{}, []tx.Out{}
	}
	got, err := buildOf(empty)
	want(t, "Build of empty lists", got, err, wanted, 0)
	for _, s := range []scene{{what: "empty lists", d: empty}, {what: "one is open", d: empty, side: 1, c: coin(1, 1, 10), o: out(10, []int{1})}} {
		s.d.Ready[1] = s.side == 0
		s.try(t)
	}
}
