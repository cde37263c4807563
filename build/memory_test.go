package build_test

import (
	"fmt"
	"slices"
	"strings"
	"testing"

	"bayou/api"
	"bayou/build"
	"bayou/cond"
	"bayou/state"
	"bayou/tx"
)

// list is a list with its spare room: it can be written over, and told; of lists within it their lengths are told alone.
type list struct {
	name  string
	spoil func()
	text  func() string
}

// listOf is a list, and what it is written over with.
func listOf[T any](name string, l []T, bad T, text func(x T) string) list {
	l = l[:cap(l)]
	return list{
		name,
		func() {
			for i := range l {
				l[i] = bad
			}
		},
		func() string {
			var b strings.Builder
			for _, x := range l {
				b.WriteString(text(x) + ";")
			}
			return b.String()
		},
	}
}

// text tells something as it is.
func text[T any](x T) string { return fmt.Sprint(x) }

// outLists are the lists of outputs.
func outLists(outs []tx.Out) []list {
	l := []list{listOf("Outs", outs, tx.Out{Amount: -7}, func(o tx.Out) string { return fmt.Sprint(o.Amount, len(o.Cond.Branches)) })}
	for i, o := range outs {
		l = append(l, listOf(fmt.Sprint("Branches of ", i), o.Cond.Branches, cond.Branch{After: -7}, func(b cond.Branch) string {
			return fmt.Sprint(len(b.Keys), b.Lock, b.After, b.Older)
		}))
		for j, b := range o.Cond.Branches {
			l = append(l, listOf(fmt.Sprintf("Keys of %d, %d", i, j), b.Keys, -7, text[int]))
		}
	}
	return l
}

// txLists are the lists of a transaction.
func txLists(x tx.Tx) []list {
	l := append(outLists(x.Outs), listOf("Ins", x.Ins, tx.In{Branch: -7}, func(in tx.In) string { return fmt.Sprint(in.Point, in.Branch, len(in.Secret)) }))
	for i, in := range x.Ins {
		l = append(l, listOf(fmt.Sprint("Secret of ", i), in.Secret, 0xbd, text[byte]))
	}
	return l
}

// stateLists are the lists of a state.
func stateLists(s state.State) []list {
	l := []list{
		listOf("Pays", s.Pays, state.Pay{ID: -7}, text[state.Pay]),
		listOf("Holds", s.Holds, state.Hold{ID: -7}, func(h state.Hold) string { return fmt.Sprint(h.ID, h.Amount, len(h.Keys)) }),
	}
	for i, h := range s.Holds {
		l = append(l, listOf(fmt.Sprint("Keys of hold ", i), h.Keys, -7, text[int]))
	}
	return l
}

// useLists are the lists of uses.
func useLists(uses []build.Use) []list {
	l := []list{listOf("uses", uses, build.Use{Out: -7}, func(u build.Use) string { return fmt.Sprint(u.Out, u.Branch, len(u.Secret)) })}
	for i, u := range uses {
		l = append(l, listOf(fmt.Sprint("secret of use ", i), u.Secret, 0xbd, text[byte]))
	}
	return l
}

// roomy is a list with spare room, in which something stands.
func roomy[T any](spare T, l ...T) []T { return append(slices.Clone(l), spare, spare, spare)[:len(l)] }

// roomyState is a state whose lists have spare room, and of which two holds have their keys in common.
func roomyState() state.State {
	keys := roomy(9, 1, 2, 4)
	return state.State{
		Has:   [2]int{50, 60},
		Pays:  roomy(pay(90, 0, 90), pay(2, 0, 20), pay(5, 1, 30)),
		Holds: roomy(hold(90, 90, 9), state.Hold{ID: 1, Amount: 15, Keys: keys}, state.Hold{ID: 2, Amount: 15, Keys: keys}, state.Hold{ID: 4, Amount: 25, Keys: keys[1:2]}),
	}
}

// asked is a call with its arguments: their lists, and the lists of what it answers.
type asked struct {
	name string
	in   []list
	call func() []list
}

// answer is the lists of an answer that must be one.
func answer(t *testing.T, x tx.Tx, err error) []list {
	t.Helper()
	wantErr(t, "an answer", err, 0)
	return txLists(x)
}

// askedScenes are calls of a channel.
func askedScenes(t *testing.T, owner int) []asked {
	s := roomyState()
	p := build.Params{Point: point(9, 3), Amount: state.Total(s), Keys: [2]int{7, 3}, Delay: 5, Fee: 5}
	secret := roomy[byte](1, 's', 'e')
	plain := s
	plain.Pays, plain.Holds = s.Pays[:0], s.Holds[:0]
	q := p
	q.Amount = state.Total(plain)
	in := stateLists(s)
	return []asked{
		{"Check", in, func() []list { wantErr(t, "Check", build.Check(p, s), 0); return nil }},
		{"Commit", in, func() []list { x, err := build.Commit(p, s, owner, api.Hash{1}); return answer(t, x, err) }},
		{"Places", in, func() []list {
			l, err := build.Places(p, s, owner)
			wantErr(t, "Places", err, 0)
			return []list{listOf("Places", l, build.Place{Kind: -7}, text[build.Place])}
		}},
		{"Penalty", append(in, listOf("secret", secret, 0xbd, text[byte])), func() []list { x, err := build.Penalty(p, s, owner, secret); return answer(t, x, err) }},
		{"Close", in, func() []list { x, err := build.Close(q, plain); return answer(t, x, err) }},
	}
}

// askedOthers are Fund and Claim; some of their lists are the same one, or pieces of one.
func askedOthers(t *testing.T) []asked {
	points := roomy(point(90, 9), point(1, 1), point(1, 2))
	keys := roomy(9, 1, 2, 4)
	branches := roomy(cond.Branch{After: 90}, cond.Branch{Keys: keys, Lock: api.Hash{1}}, cond.Branch{Keys: keys, After: 3}, cond.Branch{Keys: keys[:2]})
	rest := roomy(tx.Out{Amount: 90}, tx.Out{Amount: 20, Cond: cond.Cond{Branches: branches}}, tx.Out{Amount: 21, Cond: cond.Cond{Branches: branches}}, tx.Out{Amount: 22, Cond: cond.Cond{Branches: branches[1:2]}})
	x := tx.Tx{Ins: roomy(tx.In{Branch: 90}, tx.In{Secret: roomy[byte](90, 1, 2)}), Outs: rest}
	secret := roomy[byte](90, 's', 'e', 'c')
	uses := roomy(build.Use{Out: 90}, build.Use{Out: 0, Secret: secret}, build.Use{Out: 2, Branch: 1, Secret: secret}, build.Use{Out: 1, Secret: secret[:1]})
	return []asked{
		{"Fund", append(outLists(rest), listOf("points", points, tx.Point{N: -7}, text[tx.Point])), func() []list {
			x, err := build.Fund(points, [2]int{7, 3}, 100, rest)
			return answer(t, x, err)
		}},
		{"Claim", append(txLists(x), useLists(uses)...), func() []list { y, err := build.Claim(x, uses, 4, 5); return answer(t, y, err) }},
	}
}

// texts are lists as text.
func texts(l []list) []string {
	var all []string
	for _, x := range l {
		all = append(all, x.text())
	}
	return all
}

// wantSame holds lists against what they were ahead, but one of them.
func wantSame(t *testing.T, what string, l []list, ahead []string, but int) {
	t.Helper()
	for i, now := range texts(l) {
		if i != but && now != ahead[i] {
			t.Errorf("%s: %s has changed", what, l[i].name)
		}
	}
}

// Rule 3: an argument is not changed and not kept; an answer is new memory, and no two of its lists share any, spare room too.
func TestMemory(t *testing.T) {
	var all []func() asked
	for i := range askedOthers(t) {
		all = append(all, func() asked { return askedOthers(t)[i] })
	}
	for owner := range 2 {
		for i := range askedScenes(t, owner) {
			all = append(all, func() asked { return askedScenes(t, owner)[i] })
		}
	}
	for _, fresh := range all {
		a := fresh()
		ahead := texts(a.in)
		got := a.call()
		wantSame(t, a.name+" itself", a.in, ahead, -1)
		first := texts(got)
		for i := range a.in {
			a := fresh()
			got := a.call()
			a.in[i].spoil()
			wantSame(t, a.name+": who changes "+a.in[i].name+" that was handed in", got, first, -1)
		}
		for i := range got {
			a := fresh()
			got, again := a.call(), a.call()
			got[i].spoil()
			what := a.name + ": who changes " + got[i].name + " that was told"
			wantSame(t, what, got, first, i)
			wantSame(t, what+" (another answer)", again, first, -1)
			wantSame(t, what+" (what was handed in)", a.in, ahead, -1)
		}
	}
}
