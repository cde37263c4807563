package tree_test

import (
	"fmt"
	"slices"
	"strings"
	"testing"

	"bayou/api"
	"bayou/cond"
	"bayou/tree"
	"bayou/tx"
)

// list is a list with its spare room: it can be written over, and told; of lists within it their lengths are told alone.
type list struct {
	name  string
	spoil func()
	text  func() string
}

// listOf is a list, and what it is written over with.
func listOf[T any](name string, l []T, bad T, text func(x T) string) list {
	l = l[:cap(l)]
	return list{
		name,
		func() {
			for i := range l {
				l[i] = bad
			}
		},
		func() string {
			var b strings.Builder
			for _, x := range l {
				b.WriteString(text(x) + ";")
			}
			return b.String()
		},
	}
}

// numbers are a list of numbers.
func numbers(name string, l []int) list {
	return listOf(name, l, -7, func(n int) string { return fmt.Sprint(n) })
}

// outLists are the lists of outputs.
func outLists(name string, outs []tx.Out) []list {
	l := []list{listOf(name+"Outs", outs, tx.Out{Amount: -7}, func(o tx.Out) string { return fmt.Sprint(o.Amount, len(o.Cond.Branches)) })}
	for i, o := range outs {
		l = append(l, listOf(fmt.Sprint(name, "Branches of ", i), o.Cond.Branches, cond.Branch{After: -7}, func(b cond.Branch) string {
			return fmt.Sprint(len(b.Keys), b.Lock, b.After, b.Older)
		}))
		for j, b := range o.Cond.Branches {
			l = append(l, numbers(fmt.Sprintf("%sKeys of %d, %d", name, i, j), b.Keys))
		}
	}
	return l
}

// txLists are the lists of transactions.
func txLists(all []tx.Tx) []list {
	l := []list{listOf("the transactions", all, tx.Tx{Lock: -7}, func(x tx.Tx) string { return fmt.Sprint(x.Lock, len(x.Ins), len(x.Outs)) })}
	for rank, x := range all {
		l = append(l, outLists(fmt.Sprint(rank, ": "), x.Outs)...)
		l = append(l, listOf(fmt.Sprint(rank, ": Ins"), x.Ins, tx.In{Branch: -7}, func(in tx.In) string { return fmt.Sprint(in.Point, in.Branch, len(in.Secret)) }))
	}
	return l
}

// roomy is a list with spare room, in which something stands.
func roomy[T any](spare T, l ...T) []T { return append(slices.Clone(l), spare, spare, spare)[:len(l)] }

// asked is a call with its arguments: their lists, and the lists of what it answers.
type asked struct {
	name string
	in   []list
	call func() []list
}

// askedAll are all calls; some of the outputs' lists are the same one, or pieces of one, or the tree's keys.
func askedAll(t *testing.T, depth int) []asked {
	c, keys := base().c, roomy(9, 1, 2, 5)
	c.Depth, c.Amount, c.Keys = depth, 85+5*depth, keys
	p, q := tree.Path(roomy(9, 20, 14, 17)[:depth]), tree.Path(roomy(9, 20, 17, 11)[:depth])
	branches := roomy(cond.Branch{After: 90}, cond.Branch{Keys: keys, Lock: api.Hash{1}}, cond.Branch{Keys: keys, After: 3}, cond.Branch{Keys: keys[:2]})
	outs := roomy(tx.Out{Amount: 90}, tx.Out{Amount: 50, Cond: cond.Cond{Branches: branches}}, tx.Out{Amount: 20, Cond: cond.Cond{Branches: branches}}, tx.Out{Amount: 15, Cond: cond.Cond{Branches: branches[1:2]}})
	of := []list{numbers("Keys", keys)}
	path := append(of, numbers("p", p))
	var none []list
	fine := func(err error, l ...list) []list { wantErr(t, "an answer", err, 0); return l }
	return []asked{
		{"Check", of, func() []list { return fine(tree.Check(c)) }},
		{"Room", of, func() []list { _, err := tree.Room(c); return fine(err) }},
		{"Begin", of, func() []list { x, err := tree.Begin(c); return fine(err, numbers("the path", x)) }},
		{"Next", path, func() []list { x, err := tree.Next(c, p); return fine(err, numbers("the path", x)) }},
		{"Left", path, func() []list { _, err := tree.Left(c, p); return fine(err) }},
		{"Due", path, func() []list { _, err := tree.Due(c, p); return fine(err) }},
		{"Newer", append(path, numbers("q", q)), func() []list { tree.Newer(c, p, q); tree.Newer(c, p, p); return none }},
		{"Build", append(path, outLists("", outs)...), func() []list { x, err := tree.Build(c, p, outs); return fine(err, txLists(x)...) }},
	}
}

// texts are lists as text.
func texts(l []list) []string {
	var all []string
	for _, x := range l {
		all = append(all, x.text())
	}
	return all
}

// wantSame holds lists against what they were ahead, but one of them.
func wantSame(t *testing.T, what string, l []list, ahead []string, but int) {
	t.Helper()
	for i, now := range texts(l) {
		if i != but && now != ahead[i] {
			t.Errorf("%s: %s has changed", what, l[i].name)
		}
	}
}

// Rule 3: an argument is not changed and not kept; an answer is new memory, and no two of its lists share any, spare room too.
func TestMemory(t *testing.T) {
	for depth := 1; depth <= 3; depth++ {
		for i := range askedAll(t, depth) {
			holdMemory(t, func() asked { return askedAll(t, depth)[i] })
		}
	}
}

// holdMemory has each list of a call's arguments, and of its answer, written over, and looks at all others.
func holdMemory(t *testing.T, fresh func() asked) {
	t.Helper()
	a := fresh()
	ahead := texts(a.in)
	got := a.call()
	wantSame(t, a.name+" itself", a.in, ahead, -1)
	first := texts(got)
	for i := range a.in {
		a := fresh()
		got := a.call()
		a.in[i].spoil()
		wantSame(t, a.name+": who changes "+a.in[i].name+" that was handed in", got, first, -1)
	}
	for i := range got {
		a := fresh()
		got, again := a.call(), a.call()
		got[i].spoil()
		what := a.name + ": who changes " + got[i].name + " that was told"
		wantSame(t, what, got, first, i)
		wantSame(t, what+" (another answer)", again, first, -1)
		wantSame(t, what+" (what was handed in)", a.in, ahead, -1)
	}
}

// Rule 3: beside an error, too, nothing that was handed in is changed.
func TestMemoryErrors(t *testing.T) {
	for _, spoil := range []func(c *tree.Config, p tree.Path, outs []tx.Out){
		func(c *tree.Config, p tree.Path, outs []tx.Out) { c.Depth = 9 },
		func(c *tree.Config, p tree.Path, outs []tx.Out) { c.Keys[2] = 2 },
		func(c *tree.Config, p tree.Path, outs []tx.Out) { p[1] = 13 },
		func(c *tree.Config, p tree.Path, outs []tx.Out) { copy(p, tree.Path{11, 11, 11}) },
		func(c *tree.Config, p tree.Path, outs []tx.Out) { outs[0].Amount++ },
		func(c *tree.Config, p tree.Path, outs []tx.Out) { outs[1].Cond.Branches[0].Keys[0] = 16 },
		func(c *tree.Config, p tree.Path, outs []tx.Out) { c.Point.N = 64 },
	} {
		s := base()
		s.c.Keys, s.p, s.outs = roomy(9, 1, 2, 5), roomy(9, s.p...), roomy(out(9, []int{9}), s.outs...)
		spoil(&s.c, s.p, s.outs)
		in := append(outLists("", s.outs), numbers("Keys", s.c.Keys), numbers("p", s.p), numbers("q", s.q))
		ahead := texts(in)
		s.what = fmt.Sprint(s.c, s.p, s.outs)
		s.try(t)
		wantSame(t, s.what, in, ahead, -1)
	}
}
