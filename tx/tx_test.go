package tx_test

import (
	"bytes"
	"encoding/binary"
	"errors"
	"fmt"
	"math"
	"reflect"
	"slices"
	"testing"

	"bayou/api"
	"bayou/blake"
	"bayou/cond"
	"bayou/tx"
)

const oldest = 1 << 16

// wantErr holds an error against the number that is asked for; 0: none.
func wantErr(t *testing.T, what string, err error, want api.Errno) {
	t.Helper()
	var got api.Errno
	switch {
	case want == 0 && err != nil:
		t.Errorf("%s: %v, want no error", what, err)
	case want != 0 && (!errors.As(err, &got) || got != want):
		t.Errorf("%s: %v, want %v", what, err, want)
	}
}

// sumOf is a sum that is like noughts but for one byte.
func sumOf(at int, x byte) api.Hash {
	var h api.Hash
	h[at] = x
	return h
}

// point is one of many points: sums unlike in the first byte alone, or in the last one alone.
func point(n int) tx.Point {
	if n%2 == 0 {
		return tx.Point{Tx: sumOf(0, byte(n)), N: n % api.MaxIO}
	}
	return tx.Point{Tx: sumOf(31, byte(n)), N: n % api.MaxIO}
}

// ins are inputs of so many points.
func ins(n int) []tx.In {
	var l []tx.In
	for i := range n {
		l = append(l, tx.In{Point: point(i), Branch: i % 8})
	}
	return l
}

// outs are outputs of these amounts.
func outs(amounts ...int) []tx.Out {
	var l []tx.Out
	for i, amount := range amounts {
		l = append(l, tx.Out{Amount: amount, Cond: cond.All(i % api.MaxParty)})
	}
	return l
}

// secretOf is a secret of so many bytes, noughts and bytes 255 among them.
func secretOf(n int) []byte { return bytes.Repeat([]byte{0, 7, 255, 0, 0}, n)[:n] }

// upTo are the numbers from 0 on, so many.
func upTo(n int) []int {
	var l []int
	for i := range n {
		l = append(l, i)
	}
	return l
}

// badCond is a condition that may not be.
func badCond() cond.Cond { return cond.Cond{Branches: []cond.Branch{{Keys: []int{2, 1}}}} }

// fullCond is a condition that has as much as one may have.
func fullCond() cond.Cond {
	b := cond.Branch{Keys: upTo(api.MaxParty), Lock: sumOf(31, 255), After: api.MaxHeight, Older: oldest}
	return cond.Cond{Branches: slices.Repeat([]cond.Branch{b}, 8)}
}

// base is a transaction that may be, in which no two numbers are the same.
func base() tx.Tx {
	return tx.Tx{
		Lock: 300,
		Ins: []tx.In{
			{Point: tx.Point{Tx: sumOf(3, 9), N: 4}, Branch: 1, Secret: []byte("one")},
			{Point: tx.Point{Tx: sumOf(5, 8), N: 63}, Branch: 7},
			{Point: tx.Point{Tx: sumOf(5, 8), N: 0}, Branch: 0, Secret: []byte{0}},
		},
		Outs: []tx.Out{
			{Amount: 10, Cond: cond.All(1, 2)},
			{Amount: 5000, Cond: cond.Or(cond.All(3), cond.Cond{Branches: []cond.Branch{{Keys: []int{0, 15}, Lock: sumOf(1, 6), After: 70, Older: 20}}})},
			{Amount: 600, Cond: cond.All(5)},
		},
	}
}

// changed is base with something done to it.
func changed(do func(x *tx.Tx)) tx.Tx {
	x := base()
	do(&x)
	return x
}

// goods are transactions that may be: at all bounds, and between them.
func goods() []tx.Tx {
	tops := ins(api.MaxIO)
	for i := range tops {
		tops[i].Secret, tops[i].Branch = secretOf(i+1), i%8
	}
	return []tx.Tx{
		base(),
		{Ins: ins(1), Outs: outs(api.Dust)},
		{Ins: []tx.In{{}}, Outs: outs(11)},
		{Lock: 1, Ins: ins(2), Outs: outs(10, 10)},
		{Lock: api.MaxHeight, Ins: ins(1), Outs: outs(api.MaxAmount)},
		{Lock: api.MaxHeight - 1, Ins: ins(1), Outs: outs(api.MaxAmount - 1)},
		{Ins: ins(1), Outs: outs(api.MaxAmount-10, 10)},
		{Ins: ins(1), Outs: outs(10, api.MaxAmount-20, 10)},
		{Lock: 255, Ins: ins(63), Outs: outs(slices.Repeat([]int{10}, 63)...)},
		{Lock: 256, Ins: tops, Outs: outs(slices.Repeat([]int{api.MaxAmount / 64}, 64)...)},
		{Ins: []tx.In{{Point: tx.Point{N: 63}, Branch: 7, Secret: secretOf(64)}}, Outs: []tx.Out{{Amount: 10, Cond: fullCond()}}},
		{Ins: []tx.In{{Point: tx.Point{N: 62}, Branch: 6, Secret: secretOf(63)}}, Outs: []tx.Out{{Amount: 10, Cond: cond.Or(cond.All(0), cond.All(15))}}},
		{Ins: []tx.In{{Point: tx.Point{N: 0}}, {Point: tx.Point{N: 1}}, {Point: tx.Point{Tx: sumOf(31, 1)}}}, Outs: outs(10)},
		{Ins: []tx.In{{Secret: []byte{}}}, Outs: outs(1 << 32)},
	}
}

// fault is something by which a transaction may not be, and where in Check's rule it stands.
type fault struct {
	what string
	rank int
	want api.Errno
	do   func(x *tx.Tx)
}

// rangeFaults are those of the first two clauses: numbers and lengths out of their bounds.
func rangeFaults() []fault {
	var l []fault
	add := func(rank int, what string, do func(x *tx.Tx)) {
		l = append(l, fault{what, rank, api.ErrRange, do})
	}
	for _, n := range []int{-1, math.MinInt, api.MaxHeight + 1, math.MaxInt} {
		add(0, fmt.Sprint("Lock ", n), func(x *tx.Tx) { x.Lock = n })
	}
	for _, n := range []int{0, 65, 66, 128, 256, 257, 5000} {
		add(0, fmt.Sprint(n, " inputs"), func(x *tx.Tx) { x.Ins = slices.Repeat(append(x.Ins, tx.In{}), n)[:n] })
		add(0, fmt.Sprint(n, " outputs"), func(x *tx.Tx) { x.Outs = slices.Repeat(append(x.Outs, outs(10)...), n)[:n] })
	}
	for at := range 3 {
		input := func(what string, do func(in *tx.In)) {
			add(1, fmt.Sprint(what, " of input ", at), func(x *tx.Tx) {
				if at < len(x.Ins) {
					do(&x.Ins[at])
				}
			})
		}
		for _, n := range []int{-1, math.MinInt, 64, 65, 256, 1 << 32, math.MaxInt} {
			input(fmt.Sprint("N ", n), func(in *tx.In) { in.Point.N = n })
		}
		for _, n := range []int{-1, math.MinInt, 8, 9, 256, 1 << 32, math.MaxInt} {
			input(fmt.Sprint("Branch ", n), func(in *tx.In) { in.Branch = n })
		}
		for _, n := range []int{65, 66, 255, 256, 320} {
			input(fmt.Sprint("Secret of ", n), func(in *tx.In) { in.Secret = secretOf(n) })
		}
	}
	return l
}

// coinFaults are those of the later clauses: of points, of each output, and of all outputs together.
func coinFaults() []fault {
	var l []fault
	for _, two := range [][2]int{{0, 1}, {0, 2}, {1, 2}} {
		l = append(l, fault{fmt.Sprint("one point of inputs ", two), 2, api.ErrTwice, func(x *tx.Tx) {
			if two[1] < len(x.Ins) {
				x.Ins[two[1]].Point = x.Ins[two[0]].Point
			}
		}})
	}
	for at := range 3 {
		output := func(rank int, what string, want api.Errno, do func(out *tx.Out)) {
			l = append(l, fault{fmt.Sprint(what, " of output ", at), 3 + 3*at + rank, want, func(x *tx.Tx) {
				if at < len(x.Outs) {
					do(&x.Outs[at])
				}
			}})
		}
		for _, n := range []int{9, 8, 1, 0, -1, -10, -api.MaxAmount, math.MinInt} {
			output(0, fmt.Sprint("amount ", n), api.ErrDust, func(out *tx.Out) { out.Amount = n })
		}
		for _, n := range []int{api.MaxAmount + 1, 1 << 51, 1 << 62, math.MaxInt} {
			output(1, fmt.Sprint("amount ", n), api.ErrOver, func(out *tx.Out) { out.Amount = n })
		}
		for i, c := range []cond.Cond{{}, badCond(), cond.All(), cond.All(16), cond.All(-1, 2), cond.Or(fullCond(), cond.All(1))} {
			output(2, fmt.Sprint("condition ", i), api.ErrArg, func(out *tx.Out) { out.Cond = c })
		}
	}
	for at := range 3 {
		l = append(l, fault{fmt.Sprint("all together, most of it in output ", at), 12, api.ErrOver, func(x *tx.Tx) {
			if at < len(x.Outs) && x.Outs[at].Amount >= api.Dust && x.Outs[at].Amount < api.MaxAmount {
				x.Outs[at].Amount = api.MaxAmount
			}
		}})
	}
	return l
}

func faults() []fault { return slices.Concat(rangeFaults(), coinFaults()) }

// bads are transactions that may not be, each by one thing.
func bads() []tx.Tx {
	var l []tx.Tx
	for _, f := range faults() {
		l = append(l, changed(f.do))
	}
	return append(l, tx.Tx{}, tx.Tx{Ins: []tx.In{}, Outs: []tx.Out{}})
}

// number is a number as bytes, as chapter 1 has it: how many there are, and these.
func number(n int) []byte {
	all := binary.BigEndian.AppendUint64(nil, uint64(n))
	short := bytes.TrimLeft(all, "\x00")
	return append([]byte{byte(len(short))}, short...)
}

// marked are bytes as chapter 1 has them: 255 behind each 0, and two of these at the end.
func marked(b []byte) []byte {
	return append(bytes.ReplaceAll(b, []byte{0}, []byte{0, 255}), 0, 0)
}

// laid is a transaction as bytes, as the chapter has it: what Encode and ID are held against.
func laid(x tx.Tx) []byte {
	var b []byte
	put := func(parts ...[]byte) { b = append(b, slices.Concat(parts...)...) }
	put(number(x.Lock), number(len(x.Ins)))
	for _, in := range x.Ins {
		put(in.Point.Tx[:], number(in.Point.N), number(in.Branch), marked(in.Secret))
	}
	put(number(len(x.Outs)))
	for _, out := range x.Outs {
		put(number(out.Amount), number(len(out.Cond.Branches)))
		for _, br := range out.Cond.Branches {
			put(number(len(br.Keys)))
			for _, key := range br.Keys {
				put(number(key))
			}
			put(br.Lock[:], number(br.After), number(br.Older))
		}
	}
	return b
}

// clone is a transaction that shares nothing.
func clone(x tx.Tx) tx.Tx {
	y := tx.Tx{Lock: x.Lock}
	for _, in := range x.Ins {
		in.Secret = slices.Clone(in.Secret)
		y.Ins = append(y.Ins, in)
	}
	for _, out := range x.Outs {
		y.Outs = append(y.Outs, tx.Out{Amount: out.Amount, Cond: cond.Or(out.Cond, cond.Cond{})})
	}
	return y
}

// bare is a transaction without its secrets.
func bare(x tx.Tx) tx.Tx {
	y := clone(x)
	for i := range y.Ins {
		y.Ins[i].Secret = nil
	}
	return y
}

// alike tells whether two transactions are the same, nil and empty lists being so, too.
func alike(a, b tx.Tx) bool {
	sameIn := func(x, y tx.In) bool {
		return x.Point == y.Point && x.Branch == y.Branch && bytes.Equal(x.Secret, y.Secret)
	}
	sameBranch := func(x, y cond.Branch) bool {
		return slices.Equal(x.Keys, y.Keys) && x.Lock == y.Lock && x.After == y.After && x.Older == y.Older
	}
	sameOut := func(x, y tx.Out) bool {
		return x.Amount == y.Amount && slices.EqualFunc(x.Cond.Branches, y.Cond.Branches, sameBranch)
	}
	return a.Lock == b.Lock && slices.EqualFunc(a.Ins, b.Ins, sameIn) && slices.EqualFunc(a.Outs, b.Outs, sameOut)
}

// TestExample: TX1, the example of the chapter.
func TestExample(t *testing.T) {
	wantErr(t, "an output of 5", tx.Check(tx.Tx{Ins: ins(1), Outs: outs(5)}), api.ErrDust)
}

// TestCheck: TX1, what may be, at its bounds.
func TestCheck(t *testing.T) {
	for i, x := range goods() {
		wantErr(t, fmt.Sprint("Check of good ", i), tx.Check(x), 0)
	}
	for n := 1; n <= api.MaxIO; n++ {
		x := tx.Tx{Ins: ins(n), Outs: outs(slices.Repeat([]int{10}, api.MaxIO+1-n)...)}
		wantErr(t, fmt.Sprint("Check of inputs ", n), tx.Check(x), 0)
	}
	for n := range api.MaxIO {
		wantErr(t, fmt.Sprint("Check of N ", n), tx.Check(changed(func(x *tx.Tx) { x.Ins[0].Point.N = n })), 0)
	}
	for n := range 8 {
		wantErr(t, fmt.Sprint("Check of Branch ", n), tx.Check(changed(func(x *tx.Tx) { x.Ins[2].Branch = n })), 0)
	}
	for n := range 65 {
		wantErr(t, fmt.Sprint("Check of Secret of ", n), tx.Check(changed(func(x *tx.Tx) { x.Ins[1].Secret = secretOf(n) })), 0)
	}
}

// TestCheckAlone: TX1, each thing by which a transaction may not be, alone.
func TestCheckAlone(t *testing.T) {
	for _, f := range faults() {
		wantErr(t, f.what, tx.Check(changed(f.do)), f.want)
	}
	wantErr(t, "nothing at all", tx.Check(tx.Tx{}), api.ErrRange)
}

// TestCheckOrder: TX1, of two things the error of the one that the rule names first, whichever was done first.
func TestCheckOrder(t *testing.T) {
	all := faults()
	slices.SortStableFunc(all, func(a, b fault) int { return a.rank - b.rank })
	for i, f := range all {
		for _, g := range all[i+1:] {
			if f.rank == g.rank || f.want == g.want {
				continue
			}
			x := changed(func(x *tx.Tx) { g.do(x); f.do(x) })
			y := changed(func(x *tx.Tx) { f.do(x); g.do(x) })
			// Two faults of one number leave the one that was done last.
			if alike(y, changed(g.do)) || alike(x, changed(f.do)) {
				continue
			}
			wantErr(t, f.what+", "+g.what, tx.Check(x), f.want)
			wantErr(t, g.what+", "+f.what, tx.Check(y), f.want)
		}
	}
}

// TestCheckAll: TX1, all things together, and one after the other mended, in the rule's order.
func TestCheckAll(t *testing.T) {
	x := tx.Tx{
		Lock: -1,
		Ins:  []tx.In{{}, {}, {Branch: 8}},
		Outs: []tx.Out{{Amount: 9}, {Amount: api.MaxAmount + 1}, {Amount: api.MaxAmount, Cond: cond.All(1)}},
	}
	for i, step := range []struct {
		want api.Errno
		mend func()
	}{
		{api.ErrRange, func() { x.Lock = 0 }},
		{api.ErrRange, func() { x.Ins[2].Branch = 7 }},
		{api.ErrTwice, func() { x.Ins[1].Point.N = 1 }},
		{api.ErrTwice, func() { x.Ins[2].Point.N = 2 }},
		{api.ErrDust, func() { x.Outs[0].Amount = 10 }},
		{api.ErrArg, func() { x.Outs[0].Cond = cond.All(1) }},
		{api.ErrOver, func() { x.Outs[1].Amount = 10 }},
		{api.ErrArg, func() { x.Outs[1].Cond = cond.All(1) }},
		{api.ErrOver, func() { x.Outs[2].Amount = api.MaxAmount - 20 }},
		{0, func() {}},
	} {
		wantErr(t, fmt.Sprint("step ", i), tx.Check(x), step.want)
		step.mend()
	}
}

// TestCheckOutputs: TX1, output by output, of each its amount ahead of its condition, and all together behind all of them.
func TestCheckOutputs(t *testing.T) {
	amounts := []int{math.MinInt, 9, 10, api.MaxAmount / 2, api.MaxAmount, api.MaxAmount + 1}
	conds := []cond.Cond{cond.All(1), badCond()}
	var kinds []tx.Out
	for _, amount := range amounts {
		for _, c := range conds {
			kinds = append(kinds, tx.Out{Amount: amount, Cond: c})
		}
	}
	first := func(l []tx.Out) api.Errno {
		sum := 0
		for _, out := range l {
			switch {
			case out.Amount < 10:
				return api.ErrDust
			case out.Amount > api.MaxAmount:
				return api.ErrOver
			case cond.Check(out.Cond) != nil:
				return api.ErrArg
			}
			sum += out.Amount
		}
		if sum > api.MaxAmount {
			return api.ErrOver
		}
		return 0
	}
	for _, a := range kinds {
		for _, b := range kinds {
			for _, c := range kinds {
				l := []tx.Out{a, b, c}
				wantErr(t, fmt.Sprint("Check of outputs ", l), tx.Check(tx.Tx{Ins: ins(1), Outs: l}), first(l))
			}
		}
	}
}

// TestCheckTwice: TX1, two inputs have one point, if its sum and its number are the same, whatever else differs, and wherever they stand.
func TestCheckTwice(t *testing.T) {
	for i := range api.MaxIO {
		for j := range i {
			x := tx.Tx{Ins: ins(api.MaxIO), Outs: outs(10)}
			x.Ins[i].Point = x.Ins[j].Point
			x.Ins[i].Branch, x.Ins[i].Secret = 3, []byte("other")
			wantErr(t, fmt.Sprint("one point at ", j, ", ", i), tx.Check(x), api.ErrTwice)
			x.Ins[i].Point.Tx[16] ^= 1
			wantErr(t, "another sum", tx.Check(x), 0)
		}
	}
	same := tx.In{Point: point(3), Branch: 1, Secret: []byte("a")}
	wantErr(t, "one input twice", tx.Check(tx.Tx{Ins: []tx.In{same, same}, Outs: outs(10)}), api.ErrTwice)
}

// TestCheckTogether: TX1, all outputs together at most MaxAmount, of few and of many.
func TestCheckTogether(t *testing.T) {
	for n := 2; n <= api.MaxIO; n++ {
		amounts := slices.Repeat([]int{api.MaxAmount / n}, n)
		amounts[n/2] += api.MaxAmount % n
		wantErr(t, fmt.Sprint("just MaxAmount of ", n), tx.Check(tx.Tx{Ins: ins(1), Outs: outs(amounts...)}), 0)
		for at := range n {
			more := slices.Clone(amounts)
			more[at]++
			wantErr(t, fmt.Sprint("one more of ", n), tx.Check(tx.Tx{Ins: ins(1), Outs: outs(more...)}), api.ErrOver)
		}
		most := slices.Repeat([]int{api.MaxAmount}, n)
		wantErr(t, fmt.Sprint("far more of ", n), tx.Check(tx.Tx{Ins: ins(1), Outs: outs(most...)}), api.ErrOver)
	}
}

// TestTotal: TX1, the sum of amounts, however few, small or many; and when it is none.
func TestTotal(t *testing.T) {
	for _, x := range []struct {
		amounts []int
		sum     int
		want    api.Errno
	}{
		{nil, 0, 0},
		{[]int{0}, 0, 0},
		{[]int{0, 0, 0}, 0, 0},
		{[]int{1}, 1, 0},
		{[]int{9, 1, 0}, 10, 0},
		{[]int{30, 15, 5}, 50, 0},
		{[]int{api.MaxAmount}, api.MaxAmount, 0},
		{[]int{api.MaxAmount, 0, 0}, api.MaxAmount, 0},
		{[]int{0, api.MaxAmount}, api.MaxAmount, 0},
		{[]int{api.MaxAmount - 1, 1}, api.MaxAmount, 0},
		{[]int{1, api.MaxAmount - 2}, api.MaxAmount - 1, 0},
		{slices.Repeat([]int{api.MaxAmount / 64}, 64), api.MaxAmount, 0},
		{slices.Repeat([]int{1}, 5000), 5000, 0},
		{[]int{-1}, 0, api.ErrOver},
		{[]int{-1, 1}, 0, api.ErrOver},
		{[]int{1, -1}, 0, api.ErrOver},
		{[]int{50, 20, -5}, 0, api.ErrOver},
		{[]int{api.MaxAmount, -1}, 0, api.ErrOver},
		{[]int{-1, api.MaxAmount}, 0, api.ErrOver},
		{[]int{math.MinInt}, 0, api.ErrOver},
		{[]int{10, math.MinInt}, 0, api.ErrOver},
		{[]int{math.MinInt, math.MinInt}, 0, api.ErrOver},
		{[]int{math.MinInt, math.MaxInt, 1}, 0, api.ErrOver},
		{[]int{api.MaxAmount + 1}, 0, api.ErrOver},
		{[]int{math.MaxInt}, 0, api.ErrOver},
		{[]int{math.MaxInt, math.MaxInt}, 0, api.ErrOver},
		{[]int{math.MaxInt, math.MaxInt, 2}, 0, api.ErrOver},
		{[]int{1, math.MaxInt}, 0, api.ErrOver},
		{[]int{api.MaxAmount, math.MaxInt}, 0, api.ErrOver},
		{[]int{1 << 62, 1 << 62, 1 << 62, 1 << 62}, 0, api.ErrOver},
		{[]int{api.MaxAmount, 1}, 0, api.ErrOver},
		{[]int{1, api.MaxAmount}, 0, api.ErrOver},
		{[]int{api.MaxAmount, api.MaxAmount}, 0, api.ErrOver},
		{append(slices.Repeat([]int{api.MaxAmount / 64}, 64), 1), 0, api.ErrOver},
		{slices.Repeat([]int{api.MaxAmount}, 1<<13), 0, api.ErrOver},   // 2^63, which is no int
		{slices.Repeat([]int{api.MaxAmount}, 1<<14), 0, api.ErrOver},   // 2^64, which wraps round to 0
		{slices.Repeat([]int{api.MaxAmount}, 1<<14+1), 0, api.ErrOver}, // and beyond it
	} {
		what := fmt.Sprint("Total of ", len(x.amounts), " amounts, the first ones ", x.amounts[:min(4, len(x.amounts))])
		got, err := tx.Total(tx.Tx{Outs: outs(x.amounts...)})
		wantErr(t, what, err, x.want)
		if got != x.sum {
			t.Errorf("%s: %d, want %d", what, got, x.sum)
		}
	}
}

// TestTotalAlone: TX1, Total asks for amounts alone, whatever else is wrong.
func TestTotalAlone(t *testing.T) {
	for _, f := range rangeFaults() {
		if f.rank == 0 {
			continue
		}
		got, err := tx.Total(changed(f.do))
		wantErr(t, f.what, err, 0)
		if got != 5610 {
			t.Errorf("Total with %s: %d", f.what, got)
		}
	}
	got, err := tx.Total(tx.Tx{Lock: -5, Outs: []tx.Out{{Amount: 3}, {Amount: 4, Cond: badCond()}}})
	wantErr(t, "Total of conditions that may not be", err, 0)
	if got != 7 {
		t.Errorf("Total of conditions that may not be: %d", got)
	}
}

// TestEncodeBytes: TX2, what a transaction is as bytes, told byte by byte.
func TestEncodeBytes(t *testing.T) {
	noughts := make([]byte, 32)
	wide := bytes.Repeat([]byte{255}, 8)
	h := sumOf(0, 9)
	for _, x := range []struct {
		x    tx.Tx
		want []byte
	}{
		{tx.Tx{}, []byte{0, 0, 0}},
		{tx.Tx{Lock: 300}, []byte{2, 1, 44, 0, 0}},
		{tx.Tx{Ins: []tx.In{{}}}, slices.Concat([]byte{0, 1, 1}, noughts, []byte{0, 0, 0, 0, 0})},
		{tx.Tx{Ins: []tx.In{{Point: tx.Point{Tx: h, N: 5}, Branch: 6, Secret: []byte{7, 0, 255}}}}, slices.Concat([]byte{0, 1, 1}, h[:], []byte{1, 5, 1, 6, 7, 0, 255, 255, 0, 0, 0})},
		{tx.Tx{Outs: []tx.Out{{}}}, []byte{0, 0, 1, 1, 0, 0}},
		{tx.Tx{Outs: []tx.Out{{Amount: 300, Cond: cond.All(2, 1)}}}, slices.Concat([]byte{0, 0, 1, 1, 2, 1, 44, 1, 1, 1, 2, 1, 1, 1, 2}, noughts, []byte{0, 0})},
		{tx.Tx{Lock: -1, Ins: []tx.In{{Point: tx.Point{N: -1}, Branch: -2}}, Outs: []tx.Out{{Amount: math.MinInt}}}, slices.Concat([]byte{8}, wide, []byte{1, 1}, noughts, []byte{8}, wide, []byte{8}, wide[:7], []byte{254, 0, 0, 1, 1, 8, 128, 0, 0, 0, 0, 0, 0, 0, 0})},
	} {
		if got := tx.Encode(x.x); !bytes.Equal(got, x.want) {
			t.Errorf("Encode of %v: %v, want %v", x.x, got, x.want)
		}
	}
}

// TestEncode: TX2, of transactions that may be, and of those that may not be.
func TestEncode(t *testing.T) {
	for i, x := range slices.Concat(goods(), bads()) {
		if got := tx.Encode(x); !bytes.Equal(got, laid(x)) {
			t.Errorf("Encode of %d: %v, want %v", i, got, laid(x))
		}
	}
}

// TestID: TX2, the sum of the bytes with every secret empty, also of numbers below 0, and of what may not be.
func TestID(t *testing.T) {
	for i, x := range slices.Concat(goods(), bads()) {
		if got := tx.ID(x); got != blake.Sum(laid(bare(x))) {
			t.Errorf("ID of %d: %x", i, got)
		}
	}
	for _, n := range []int{-1, -2, -256, math.MinInt, math.MinInt + 1, math.MaxInt} {
		x := tx.Tx{Lock: n, Ins: []tx.In{{Point: tx.Point{N: n}, Branch: n, Secret: []byte("a")}}, Outs: []tx.Out{{Amount: n, Cond: cond.Cond{Branches: []cond.Branch{{Keys: []int{n}, After: n, Older: n}}}}}}
		if got := tx.ID(x); got != blake.Sum(laid(bare(x))) {
			t.Errorf("ID of numbers %d: %x", n, got)
		}
	}
}

// TestIDText: TX2, sums that another program of BLAKE2s told of the bytes.
func TestIDText(t *testing.T) {
	for _, x := range []struct {
		x    tx.Tx
		want string
	}{
		{tx.Tx{}, "ddc6305f977d3a21927ac314407a9e81beeab7f08deb6807828e234fa4641b17"},
		{tx.Tx{Lock: -1}, "856671c4ed8f1798fa0f1d155a8b6f1d459ef83187b1eeee68b200d5151bf7cc"},
		{tx.Tx{Lock: 300, Ins: []tx.In{{Point: tx.Point{Tx: sumOf(0, 9), N: 5}, Branch: 6, Secret: []byte("a")}}, Outs: outs(10)}, "2b69308adbdbdd48d4547e115e6e6cba25c02682cd596333c5f91df8935bcf74"},
	} {
		if got := blake.Text(tx.ID(x.x)); got != x.want {
			t.Errorf("ID of %v: %s, want %s", x.x, got, x.want)
		}
	}
}

// TestSecrets: TX4, no secret changes the ID, and each changes the bytes.
func TestSecrets(t *testing.T) {
	secrets := [][]byte{nil, {}, {0}, {0, 0}, {255}, []byte("a"), secretOf(64), secretOf(65), secretOf(1000)}
	for i, x := range goods() {
		id, plain := tx.ID(bare(x)), tx.Encode(bare(x))
		for at := range x.Ins {
			for _, secret := range secrets {
				y := bare(x)
				y.Ins[at].Secret = secret
				if tx.ID(y) != id || tx.At(y, 2) != (tx.Point{Tx: id, N: 2}) {
					t.Errorf("ID of %d changed by secret %v of input %d", i, secret, at)
				}
				if same := bytes.Equal(tx.Encode(y), plain); same != (len(secret) == 0) {
					t.Errorf("Encode of %d with secret %v of input %d: the same as without: %v", i, secret, at, same)
				}
			}
		}
		y := clone(x)
		for at := range y.Ins {
			y.Ins[at].Secret = secrets[at%len(secrets)]
		}
		if tx.ID(y) != id || tx.ID(x) != id {
			t.Errorf("ID of %d changed by many secrets", i)
		}
	}
}

// apart are transactions no two of which are the same but for secrets, many of them near each other.
func apart() []tx.Tx {
	l := []tx.Tx{base()}
	add := func(do func(x *tx.Tx)) { l = append(l, changed(do)) }
	for _, n := range []int{0, 1, 299, 301, 300 << 8, -1, -300, math.MinInt, math.MaxInt} {
		add(func(x *tx.Tx) { x.Lock = n })
		add(func(x *tx.Tx) { x.Ins[1].Point.N = n })
		add(func(x *tx.Tx) { x.Ins[0].Branch = n + 8 })
		add(func(x *tx.Tx) { x.Outs[2].Amount = n })
		add(func(x *tx.Tx) { x.Outs[1].Cond.Branches[1].After = n })
		add(func(x *tx.Tx) { x.Outs[1].Cond.Branches[1].Older = n })
		add(func(x *tx.Tx) { x.Outs[2].Cond.Branches[0].Keys[0] = n })
	}
	for at := range 32 {
		add(func(x *tx.Tx) { x.Ins[1].Point.Tx[at] ^= 1 })
		add(func(x *tx.Tx) { x.Outs[1].Cond.Branches[1].Lock[at] ^= 128 })
		add(func(x *tx.Tx) { x.Outs[0].Cond.Branches[0].Lock[at] ^= 128 })
	}
	for at := range 3 {
		add(func(x *tx.Tx) { x.Ins = slices.Delete(x.Ins, at, at+1) })
		add(func(x *tx.Tx) { x.Ins = slices.Insert(x.Ins, at, tx.In{}) })
		add(func(x *tx.Tx) { x.Ins = slices.Insert(x.Ins, at, x.Ins[at]) })
		add(func(x *tx.Tx) { x.Ins[at], x.Ins[(at+1)%3] = x.Ins[(at+1)%3], x.Ins[at] })
		add(func(x *tx.Tx) { x.Outs = slices.Delete(x.Outs, at, at+1) })
		add(func(x *tx.Tx) { x.Outs = slices.Insert(x.Outs, at, tx.Out{}) })
		add(func(x *tx.Tx) { x.Outs = slices.Insert(x.Outs, at, x.Outs[at]) })
		add(func(x *tx.Tx) { x.Outs[at], x.Outs[(at+1)%3] = x.Outs[(at+1)%3], x.Outs[at] })
		add(func(x *tx.Tx) { x.Outs[at].Cond = cond.Cond{} })
		add(func(x *tx.Tx) { x.Outs[at].Cond = cond.Or(x.Outs[at].Cond, cond.All(9)) })
		add(func(x *tx.Tx) { x.Outs[at].Cond.Branches[0].Keys = nil })
	}
	add(func(x *tx.Tx) { slices.Reverse(x.Outs[1].Cond.Branches) })
	add(func(x *tx.Tx) { slices.Reverse(x.Outs[0].Cond.Branches[0].Keys) })
	add(func(x *tx.Tx) { x.Ins = nil })
	add(func(x *tx.Tx) { x.Outs = nil })
	return append(l, tx.Tx{}, tx.Tx{Ins: []tx.In{{}}}, tx.Tx{Outs: []tx.Out{{}}}, tx.Tx{Outs: []tx.Out{{}, {}}})
}

// TestAllElse: TX4, all else but secrets changes the ID, and the bytes.
func TestAllElse(t *testing.T) {
	ids, codes := map[api.Hash]int{}, map[string]int{}
	for i, x := range apart() {
		id, code := tx.ID(x), string(tx.Encode(x))
		if j, there := ids[id]; there {
			t.Errorf("%d and %d have one ID", i, j)
		}
		if j, there := codes[code]; there {
			t.Errorf("%d and %d have the same bytes", i, j)
		}
		ids[id], codes[code] = i, i
	}
}

// wantForm is that bytes are no transaction's: ErrForm, and nothing beside it.
func wantForm(t *testing.T, what string, b []byte) {
	t.Helper()
	x, err := tx.Decode(b)
	if err == nil {
		t.Errorf("%s: Decode of %v: %v", what, b, x)
		return
	}
	wantErr(t, what, err, api.ErrForm)
	if !reflect.DeepEqual(x, tx.Tx{}) {
		t.Errorf("%s: beside the error: %v", what, x)
	}
}

// TestDecode: TX2, what Encode laid comes back, with its secrets.
func TestDecode(t *testing.T) {
	for i, x := range goods() {
		got, err := tx.Decode(tx.Encode(x))
		if err != nil || !alike(got, x) {
			t.Errorf("Decode of %d: %v, %v, want %v", i, got, err, x)
		}
	}
}

// TestDecodeCut: TX2, bytes cut short, left over, or put ahead.
func TestDecodeCut(t *testing.T) {
	for _, x := range goods() {
		b := laid(x)
		step := 1 + len(b)/500
		for n := 0; n < len(b); n += step {
			wantForm(t, "cut short", b[:n])
		}
		wantForm(t, "cut by one", b[:len(b)-1])
		for _, x := range []byte{0, 1, 9, 255} {
			wantForm(t, "a byte left over", append(slices.Clone(b), x))
		}
		wantForm(t, "another one left over", slices.Concat(b, b))
		wantForm(t, "a nought ahead", slices.Concat([]byte{0}, b))
	}
	wantForm(t, "nil", nil)
	wantForm(t, "nothing", []byte{})
	wantForm(t, "noughts", make([]byte, 100))
}

// TestDecodeBad: TX2, transactions that may not be are no bytes of any, whatever Check says of them.
func TestDecodeBad(t *testing.T) {
	for _, x := range bads() {
		wantForm(t, "a transaction that may not be", laid(x))
	}
}

// TestDecodeForm: TX2, numbers that are not laid as layer 1 has them, and counts beyond what follows.
func TestDecodeForm(t *testing.T) {
	noughts := make([]byte, 32)
	in := slices.Concat(noughts, []byte{1, 5, 1, 6, 7, 0, 0})
	out := slices.Concat([]byte{1, 20, 1, 1, 1, 1, 1, 3}, noughts, []byte{0, 0})
	all := func(parts ...[]byte) []byte { return slices.Concat(parts...) }
	if _, err := tx.Decode(all([]byte{0, 1, 1}, in, []byte{1, 1}, out)); err != nil {
		t.Fatalf("the bytes that the others are made of: %v", err)
	}
	for _, x := range []struct {
		what string
		b    []byte
	}{
		{"Lock 0 with a needless nought", all([]byte{1, 0, 1, 1}, in, []byte{1, 1}, out)},
		{"Lock with a needless nought", all([]byte{2, 0, 1, 1, 1}, in, []byte{1, 1}, out)},
		{"Lock of nine bytes", all([]byte{9, 1, 0, 0, 0, 0, 0, 0, 0, 0, 1, 1}, in, []byte{1, 1}, out)},
		{"Lock beyond an int", all([]byte{8, 255, 255, 255, 255, 255, 255, 255, 255, 1, 1}, in, []byte{1, 1}, out)},
		{"a count of inputs with a needless nought", all([]byte{0, 2, 0, 1}, in, []byte{1, 1}, out)},
		{"a count of inputs beyond what follows", []byte{0, 1, 64, 0}},
		{"a great count of inputs", all([]byte{0, 8, 255, 255, 255, 255, 255, 255, 255, 255}, in, []byte{1, 1}, out)},
		{"fewer inputs than told", all([]byte{0, 1, 2}, in, []byte{1, 1}, out)},
		{"more inputs than told", all([]byte{0, 1, 1}, in, in, []byte{1, 1}, out)},
		{"N with a needless nought", all([]byte{0, 1, 1}, noughts, []byte{2, 0, 5, 1, 6, 7, 0, 0, 1, 1}, out)},
		{"N of 2^32 and 5", all([]byte{0, 1, 1}, noughts, []byte{5, 1, 0, 0, 0, 5, 1, 6, 7, 0, 0, 1, 1}, out)},
		{"Branch with a needless nought", all([]byte{0, 1, 1}, noughts, []byte{1, 5, 2, 0, 6, 7, 0, 0, 1, 1}, out)},
		{"Branch of 2^32 and 6", all([]byte{0, 1, 1}, noughts, []byte{1, 5, 5, 1, 0, 0, 0, 6, 7, 0, 0, 1, 1}, out)},
		{"Secret with a wrong mark", all([]byte{0, 1, 1}, noughts, []byte{1, 5, 1, 6, 7, 0, 1, 0, 0, 1, 1}, out)},
		{"Secret without its end", all([]byte{0, 1, 1}, noughts, []byte{1, 5, 1, 6, 7, 7, 7})},
		{"a count of outputs with a needless nought", all([]byte{0, 1, 1}, in, []byte{2, 0, 1}, out)},
		{"a count of outputs beyond what follows", all([]byte{0, 1, 1}, in, []byte{1, 64}, out)},
		{"a great count of outputs", all([]byte{0, 1, 1}, in, []byte{8, 127, 255, 255, 255, 255, 255, 255, 255}, out)},
		{"fewer outputs than told", all([]byte{0, 1, 1}, in, []byte{1, 2}, out)},
		{"more outputs than told", all([]byte{0, 1, 1}, in, []byte{1, 1}, out, out)},
		{"Amount with a needless nought", all([]byte{0, 1, 1}, in, []byte{1, 1, 2, 0}, out[1:])},
		{"a count of branches with a needless nought", all([]byte{0, 1, 1}, in, []byte{1, 1, 1, 20, 2, 0, 1}, out[4:])},
		{"a count of keys with a needless nought", all([]byte{0, 1, 1}, in, []byte{1, 1, 1, 20, 1, 1, 2, 0, 1}, out[6:])},
		{"a key with a needless nought", all([]byte{0, 1, 1}, in, []byte{1, 1, 1, 20, 1, 1, 1, 1, 2, 0, 3}, out[8:])},
		{"a key of 2^32 and 3", all([]byte{0, 1, 1}, in, []byte{1, 1, 1, 20, 1, 1, 1, 1, 5, 1, 0, 0, 0, 3}, out[8:])},
		{"After with a needless nought", all([]byte{0, 1, 1}, in, []byte{1, 1}, out[:40], []byte{1, 0, 0})},
		{"Older with a needless nought", all([]byte{0, 1, 1}, in, []byte{1, 1}, out[:40], []byte{0, 1, 0})},
		{"Older of nine bytes", all([]byte{0, 1, 1}, in, []byte{1, 1}, out[:40], []byte{0, 9, 1, 0, 0, 0, 0, 0, 0, 0, 0})},
	} {
		wantForm(t, x.what, x.b)
	}
}

// TestDecodeBounds: TX2, each number at its bound is taken off, and one more is not, where all else may be.
func TestDecodeBounds(t *testing.T) {
	for _, x := range []struct {
		what string
		set  func(x *tx.Tx, n int)
		most int
	}{
		{"Lock", func(x *tx.Tx, n int) { x.Lock = n }, api.MaxHeight},
		{"N", func(x *tx.Tx, n int) { x.Ins[0].Point.N = n }, 63},
		{"Branch", func(x *tx.Tx, n int) { x.Ins[0].Branch = n }, 7},
		{"Secret", func(x *tx.Tx, n int) { x.Ins[0].Secret = secretOf(n) }, 64},
		{"inputs", func(x *tx.Tx, n int) { x.Ins = append(x.Ins, ins(n)...)[3:] }, 64},
		{"outputs", func(x *tx.Tx, n int) { x.Outs = outs(slices.Repeat([]int{10}, n)...) }, 64},
		{"Amount", func(x *tx.Tx, n int) { x.Outs = outs(n) }, api.MaxAmount},
		{"all together", func(x *tx.Tx, n int) { x.Outs = outs(n-100, 100) }, api.MaxAmount},
		{"branches", func(x *tx.Tx, n int) {
			x.Outs[0].Cond.Branches = slices.Repeat([]cond.Branch{{Keys: []int{1}}}, n)
		}, 8},
		{"keys", func(x *tx.Tx, n int) { x.Outs[0].Cond = cond.All(upTo(n)...) }, 16},
		{"a key", func(x *tx.Tx, n int) { x.Outs[0].Cond = cond.All(n) }, 15},
		{"After", func(x *tx.Tx, n int) { x.Outs[0].Cond.Branches[0].After = n }, api.MaxHeight},
		{"Older", func(x *tx.Tx, n int) { x.Outs[0].Cond.Branches[0].Older = n }, oldest},
	} {
		for _, n := range []int{x.most - 1, x.most} {
			y := changed(func(y *tx.Tx) { x.set(y, n) })
			got, err := tx.Decode(laid(y))
			if err != nil || !alike(got, y) {
				t.Errorf("%s of %d: %v, %v", x.what, n, got, err)
			}
		}
		wantForm(t, x.what+" beyond its bound", laid(changed(func(y *tx.Tx) { x.set(y, x.most+1) })))
	}
}

// checkDecode holds Decode against the bytes that a transaction has: what is taken off lays these bytes, and may be; else it is ErrForm.
func checkDecode(t *testing.T, b []byte) {
	t.Helper()
	x, err := tx.Decode(b)
	if err != nil {
		wantForm(t, "no transaction's bytes", b)
		return
	}
	if !bytes.Equal(laid(x), b) || !bytes.Equal(tx.Encode(x), b) {
		t.Errorf("Decode of %v: %v, which has other bytes", b, x)
	}
	wantErr(t, "Check of what was taken off", tx.Check(x), 0)
}

// TestDecodeOneByte: TX2, bytes with any one byte changed are another transaction's, or none's.
func TestDecodeOneByte(t *testing.T) {
	good := laid(base())
	for at := range good {
		for x := range 256 {
			b := slices.Clone(good)
			b[at] = byte(x)
			checkDecode(t, b)
		}
	}
}

// FuzzDecode: TX2, whatever the bytes are, they are a transaction's that may be, laid again as they were, or ErrForm.
func FuzzDecode(f *testing.F) {
	for _, x := range goods() {
		f.Add(laid(x))
	}
	for _, x := range apart() {
		f.Add(laid(x))
	}
	f.Fuzz(checkDecode)
}

// TestAt: TX3, the point of the ID and of any number, be there such an output or not.
func TestAt(t *testing.T) {
	for i, x := range slices.Concat(goods(), bads()) {
		for _, n := range []int{0, 1, 63, 64, -1, math.MinInt, math.MaxInt} {
			if got := tx.At(x, n); got.Tx != tx.ID(x) || got.N != n {
				t.Errorf("At of %d, %d: %v", i, n, got)
			}
		}
	}
}

// near are points that differ from one in one thing.
func near(p tx.Point) []tx.Point {
	var l []tx.Point
	for at := range 32 {
		q := p
		q.Tx[at] ^= 1
		l = append(l, q)
	}
	for _, n := range []int{p.N + 1, p.N - 1, -1 - p.N, p.N + 256, p.N + 1<<32} {
		l = append(l, tx.Point{Tx: p.Tx, N: n})
	}
	return l
}

// TestSpends: TX3, whether an input has the point, wherever it stands, whatever its branch and its secret; not one that is near it.
func TestSpends(t *testing.T) {
	for _, x := range []tx.Tx{base(), {Ins: ins(64)}, {Ins: ins(100), Lock: -1}, {Ins: slices.Repeat(ins(1), 3)}, {Ins: []tx.In{{Point: tx.Point{N: -7}}, {Point: tx.Point{N: math.MaxInt}}}}} {
		has := func(p tx.Point) bool {
			return slices.IndexFunc(x.Ins, func(in tx.In) bool { return in.Point.Tx == p.Tx && in.Point.N == p.N }) >= 0
		}
		for i, in := range x.Ins {
			if !tx.Spends(x, in.Point) {
				t.Errorf("Spends of input %d: false", i)
			}
			for _, p := range near(in.Point) {
				if got := tx.Spends(x, p); got != has(p) {
					t.Errorf("Spends of %v, near input %d: %v", p, i, got)
				}
			}
		}
		if tx.Spends(x, tx.At(x, 0)) {
			t.Error("Spends of its own output: true")
		}
	}
	if tx.Spends(tx.Tx{Outs: outs(10)}, tx.Point{}) || tx.Spends(tx.Tx{}, tx.Point{}) {
		t.Error("Spends without inputs: true")
	}
	if !tx.Spends(tx.Tx{Ins: []tx.In{{}}}, tx.Point{}) {
		t.Error("Spends of noughts: false")
	}
}

// spender is a transaction that spends these points, unlike others in all else.
func spender(n int, l ...tx.Point) tx.Tx {
	x := tx.Tx{Lock: n, Outs: outs(10 + n)}
	for _, p := range l {
		x.Ins = append(x.Ins, tx.In{Point: p, Branch: n % 8, Secret: []byte{byte(n)}})
	}
	return x
}

// TestClash: TX3, a point in common, wherever it stands in either; all else may be the same or not.
func TestClash(t *testing.T) {
	mixed := []tx.Tx{{}, {Ins: []tx.In{{}}}, spender(4, tx.Point{N: -1}, point(1)), spender(9, tx.Point{N: -1})}
	for mask := range 16 {
		var l []tx.Point
		for i := range 4 {
			if mask>>i&1 == 1 {
				l = append(l, point(i))
			}
		}
		mixed = append(mixed, spender(mask, l...))
		slices.Reverse(l)
		mixed = append(mixed, spender(3, l...))
	}
	for i, a := range mixed {
		for j, b := range mixed {
			want := false
			for _, x := range a.Ins {
				for _, y := range b.Ins {
					want = want || x.Point.Tx == y.Point.Tx && x.Point.N == y.Point.N
				}
			}
			if got := tx.Clash(a, b); got != want {
				t.Errorf("Clash of %d and %d: %v, want %v", i, j, got, want)
			}
		}
	}
	for _, p := range near(point(5)) {
		if tx.Clash(spender(1, point(5)), spender(1, p)) {
			t.Errorf("Clash of a point and %v, which is near it: true", p)
		}
	}
	x := base()
	if tx.Clash(x, spender(1, tx.At(x, 0))) || tx.Clash(spender(1, tx.At(x, 0)), x) {
		t.Error("Clash of a transaction and one that spends its output: true")
	}
	if !tx.Clash(x, x) {
		t.Error("Clash of a transaction with itself: false")
	}
}

// TestLess: TX3, by Tx, byte by byte, the first one ahead of all, and bytes from 128 on behind those below; then by N, also below 0.
func TestLess(t *testing.T) {
	numbers := []int{math.MinInt, -256, -1, 0, 1, 2, 63, 255, 256, 1 << 32, math.MaxInt}
	sums := []api.Hash{{}}
	for at := 31; at >= 0; at-- {
		for _, x := range []byte{1, 127, 128, 255} {
			sums = append(sums, sumOf(at, x))
			if at < 31 {
				h := sumOf(at, x)
				h[31] = 200
				sums = append(sums, h)
			}
		}
	}
	var l []tx.Point // ascending
	for _, h := range sums {
		for _, n := range numbers {
			l = append(l, tx.Point{Tx: h, N: n})
		}
	}
	for i, p := range l {
		for j, q := range l {
			if got := tx.Less(p, q); got != (i < j) {
				t.Fatalf("Less of %v and %v: %v", p, q, got)
			}
		}
	}
}

// fill overwrites a list's items, and its spare room.
func fill[T any](l []T, x T) {
	l = l[:cap(l)]
	for i := range l {
		l[i] = x
	}
}

// TestMemoryDecode: rule 3, Decode changes and keeps none of its bytes, and no two lists of its answers share any, spare room too.
func TestMemoryDecode(t *testing.T) {
	for _, want := range goods() {
		b := laid(want)
		x, err := tx.Decode(b)
		wantErr(t, "Decode", err, 0)
		y, err := tx.Decode(b)
		wantErr(t, "Decode", err, 0)
		if !bytes.Equal(b, laid(want)) {
			t.Errorf("Decode changed its bytes: %v", b)
		}
		fill(b, 9)
		behind := func(l []int) []int { return l[len(l):cap(l)] }
		for i, in := range x.Ins {
			fill(in.Secret[len(in.Secret):cap(in.Secret)], byte(i))
		}
		for i, out := range x.Outs {
			for j, br := range out.Cond.Branches {
				fill(behind(br.Keys), 50+8*i+j)
			}
			fill(out.Cond.Branches[len(out.Cond.Branches):cap(out.Cond.Branches)], cond.Branch{Older: i})
		}
		fill(x.Ins[len(x.Ins):cap(x.Ins)], tx.In{Branch: 9})
		fill(x.Outs[len(x.Outs):cap(x.Outs)], tx.Out{Amount: 9})
		if !alike(x, want) || !alike(y, want) {
			t.Errorf("answers share: %v, %v", x, y)
		}
		for i := range x.Ins {
			fill(x.Ins[i].Secret, 77)
		}
		for i := range x.Outs {
			for _, br := range x.Outs[i].Cond.Branches {
				fill(br.Keys, 77)
			}
			fill(x.Outs[i].Cond.Branches, cond.Branch{})
		}
		if !alike(y, want) {
			t.Errorf("two answers share: %v", y)
		}
	}
}

// TestMemoryEncode: rule 3, each answer of Encode is its own.
func TestMemoryEncode(t *testing.T) {
	for i, x := range goods() {
		before := clone(x)
		a, b := tx.Encode(x), tx.Encode(x)
		fill(a, 9)
		if !bytes.Equal(b, laid(before)) || !alike(x, before) {
			t.Errorf("Encode's answer of %d shares", i)
		}
	}
}

// TestAskingChangesNothing: rules 1, 3 and 4, whatever is asked, of whatever may or may not be, arguments stay, and the same answer comes again.
func TestAskingChangesNothing(t *testing.T) {
	other := base()
	for i, x := range slices.Concat(goods(), bads(), apart()) {
		before := clone(x)
		ask := func() []any {
			sum, err := tx.Total(x)
			y, err2 := tx.Decode(tx.Encode(x))
			return []any{tx.Check(x), tx.ID(x), sum, err, tx.Encode(x), y, err2, tx.At(x, i), tx.Spends(x, point(1)), tx.Clash(x, other), tx.Clash(other, x)}
		}
		first := ask()
		if !reflect.DeepEqual(first, ask()) {
			t.Errorf("asked again of %d: another answer", i)
		}
		if !alike(x, before) || !alike(other, base()) {
			t.Errorf("asking changed %d", i)
		}
		if sum := first[2].(int); first[3] != nil && sum != 0 {
			t.Errorf("Total of %d beside its error: %d", i, sum)
		}
	}
}

// TestMany: rule 1, far more inputs and outputs than may be have an ID, and are told by Check at once.
func TestMany(t *testing.T) {
	const many = 20000
	x := tx.Tx{Ins: slices.Repeat(ins(100), many/100), Outs: outs(slices.Repeat([]int{10}, many)...)}
	wantErr(t, "Check of many", tx.Check(x), api.ErrRange)
	b := tx.Encode(x)
	if tx.ID(x) != blake.Sum(b) {
		t.Error("ID of many, without secrets: not the sum of the bytes")
	}
	wantForm(t, "many", b)
	if got, err := tx.Total(x); got != 10*many || err != nil {
		t.Errorf("Total of many: %d, %v", got, err)
	}
	if !tx.Clash(x, x) || tx.Clash(x, spender(1, point(101))) || !tx.Clash(spender(1, point(99)), x) {
		t.Error("Clash of many")
	}
}
