package wire_test

import (
	"fmt"
	"slices"
	"strings"
	"testing"

	"bayou/state"
	"bayou/wire"
)

// list is a list with its spare room: it can be written over, and told; of lists within it their lengths are told alone.
type list struct {
	name  string
	spoil func()
	text  func() string
}

// listOf is a list, and what it is written over with.
func listOf[T any](name string, l []T, bad T, text func(x T) string) list {
	l = l[:cap(l)]
	return list{
		name,
		func() {
			for i := range l {
				l[i] = bad
			}
		},
		func() string {
			var b strings.Builder
			for _, x := range l {
				b.WriteString(text(x) + ";")
			}
			return b.String()
		},
	}
}

// text tells something as it is.
func text[T any](x T) string { return fmt.Sprint(x) }

// byteList is a list of bytes.
func byteList(name string, b []byte) list { return listOf(name, b, 0xbd, text[byte]) }

// stateLists are the lists of a state.
func stateLists(s state.State) []list {
	l := []list{
		listOf("Pays", s.Pays, state.Pay{ID: -7}, text[state.Pay]),
		listOf("Holds", s.Holds, state.Hold{ID: -7}, func(h state.Hold) string { return fmt.Sprint(h.ID, h.Amount, len(h.Keys)) }),
	}
	for i, h := range s.Holds {
		l = append(l, listOf(fmt.Sprint("Keys of hold ", i), h.Keys, -7, text[int]))
	}
	return l
}

// msgLists are the lists of a message.
func msgLists(m wire.Msg) []list {
	return []list{byteList("the Op's secret", m.Op.Secret), byteList("the secret", m.Secret)}
}

// roomy is a list with spare room, in which something stands.
func roomy[T any](spare T, l ...T) []T { return append(slices.Clone(l), spare, spare, spare)[:len(l)] }

// roomyState is a state whose lists have spare room, and of which two holds have their keys in common.
func roomyState() state.State {
	keys := roomy(9, 1, 2, 4)
	return state.State{
		Has:   [2]int{50, 60},
		Pays:  roomy(pay(90, 0, 90), pay(6, 0, 20), pay(7, 1, 30)),
		Holds: roomy(hold(90, 90, 9), state.Hold{ID: 1, Amount: 15, Keys: keys}, state.Hold{ID: 2, Amount: 15, Keys: keys}, state.Hold{ID: 4, Amount: 25, Keys: keys[1:2]}),
	}
}

// asked is a call with its arguments: their lists, and the lists of what it answers.
type asked struct {
	name string
	in   []list
	call func() []list
}

// askedDo are calls of Do, one of each kind.
func askedDo(t *testing.T, side int) []asked {
	theirs := 7 - side
	var l []asked
	for _, o := range []wire.Op{doMove(20), doAdd(pay(0, side, 20)), doAdd(pay(9, side, 20)), doSettle(theirs, secretOf(theirs)), doFail(theirs)} {
		s := roomyState()
		o.Secret = roomy(byte(90), o.Secret...)
		l = append(l, asked{fmt.Sprintf("Do of kind %d by side %d", o.Kind, side), append(stateLists(s), byteList("the secret", o.Secret)), func() []list {
			n, err := wire.Do(s, side, o)
			wantErr(t, "Do", err, 0)
			return stateLists(n)
		}})
	}
	return l
}

// roomyMsg is a message whose secrets have spare room, and are pieces of one list.
func roomyMsg() wire.Msg {
	secret := roomy(byte(90), secretOf(7)...)
	return wire.Msg{Kind: 3, Number: 8, Op: doSettle(7, secret), Lock: lock(5), Secret: secret[:4]}
}

// askedBytes are calls of Encode and Decode, and of those for what is done.
func askedBytes(t *testing.T) []asked {
	m := roomyMsg()
	b, op := roomy(byte(90), laid(m)...), roomy(byte(90), laidOp(m.Op)...)
	return []asked{
		{"EncodeOp", msgLists(m), func() []list { return []list{byteList("bytes", wire.EncodeOp(m.Op))} }},
		{"Encode", msgLists(m), func() []list { return []list{byteList("bytes", wire.Encode(m))} }},
		{"DecodeOp", []list{byteList("bytes", op)}, func() []list {
			o, err := wire.DecodeOp(op)
			wantErr(t, "DecodeOp", err, 0)
			return []list{byteList("the secret", o.Secret)}
		}},
		{"Decode", []list{byteList("bytes", b)}, func() []list {
			n, err := wire.Decode(b)
			wantErr(t, "Decode", err, 0)
			return msgLists(n)
		}},
	}
}

// texts are lists as text.
func texts(l []list) []string {
	var all []string
	for _, x := range l {
		all = append(all, x.text())
	}
	return all
}

// wantSame holds lists against what they were ahead, but one of them.
func wantSame(t *testing.T, what string, l []list, ahead []string, but int) {
	t.Helper()
	for i, now := range texts(l) {
		if i != but && now != ahead[i] {
			t.Errorf("%s: %s has changed", what, l[i].name)
		}
	}
}

// Rule 3: an argument is not changed and not kept; an answer is new memory, and no two of its lists share any, spare room too.
func TestMemory(t *testing.T) {
	var all []func() asked
	for i := range askedBytes(t) {
		all = append(all, func() asked { return askedBytes(t)[i] })
	}
	for side := range 2 {
		for i := range askedDo(t, side) {
			all = append(all, func() asked { return askedDo(t, side)[i] })
		}
	}
	for _, fresh := range all {
		a := fresh()
		ahead := texts(a.in)
		got := a.call()
		wantSame(t, a.name+" itself", a.in, ahead, -1)
		first := texts(got)
		for i := range a.in {
			a := fresh()
			got := a.call()
			a.in[i].spoil()
			wantSame(t, a.name+": who changes "+a.in[i].name+" that was handed in", got, first, -1)
		}
		for i := range got {
			a := fresh()
			got, again := a.call(), a.call()
			got[i].spoil()
			what := a.name + ": who changes " + got[i].name + " that was told"
			wantSame(t, what, got, first, i)
			wantSame(t, what+" (another answer)", again, first, -1)
			wantSame(t, what+" (what was handed in)", a.in, ahead, -1)
		}
	}
}

// Rule 3: with an error, too, what was handed in stays.
func TestMemoryErrors(t *testing.T) {
	for side := -1; side <= 2; side++ {
		for _, o := range opsOf(roomyState()) {
			s := roomyState()
			o.Secret = roomy(byte(90), o.Secret[:min(len(o.Secret), 99)]...)
			l := append(stateLists(s), byteList("the secret", o.Secret))
			ahead := texts(l)
			wire.Do(s, side, o)
			wantSame(t, fmt.Sprintf("side %d: %s", side, tell(o)), l, ahead, -1)
		}
	}
}
