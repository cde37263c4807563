package ledger_test

import (
	"bytes"
	"cmp"
	"errors"
	"fmt"
	"math"
	"reflect"
	"slices"
	"testing"

	"bayou/api"
	"bayou/cond"
	"bayou/ledger"
	"bayou/oath"
	"bayou/tx"
)

const oldest = 1 << 16

// wantErr holds an error against the number that is asked for; 0: none.
func wantErr(t *testing.T, what string, err error, want api.Errno) {
	t.Helper()
	var got api.Errno
	switch {
	case want == 0 && err != nil:
		t.Errorf("%s: %v, want no error", what, err)
	case want != 0 && (!errors.As(err, &got) || got != want):
		t.Errorf("%s: %v, want %v", what, err, want)
	}
}

// wantFee holds a fee and an error against those that are asked for.
func wantFee(t *testing.T, what string, fee int, err error, want int, wantNo api.Errno) {
	t.Helper()
	wantErr(t, what, err, wantNo)
	if fee != want {
		t.Errorf("%s: fee %d, want %d", what, fee, want)
	}
}

// sumOf is a sum that is like noughts but for one byte.
func sumOf(at int, x byte) api.Hash {
	var h api.Hash
	h[at] = x
	return h
}

// point is one of many points: sums unlike in the first byte alone, or in the last one alone, or points unlike in the number alone.
func point(n int) tx.Point {
	switch n % 3 {
	case 0:
		return tx.Point{Tx: sumOf(0, byte(n)), N: n % api.MaxIO}
	case 1:
		return tx.Point{Tx: sumOf(31, byte(n)), N: n % api.MaxIO}
	}
	return tx.Point{Tx: sumOf(15, 7), N: n}
}

// out is an amount under the keys of some, one condition for all of them.
func out(amount int, keys ...int) tx.Out { return tx.Out{Amount: amount, Cond: cond.All(keys...)} }

// under is an amount under branches.
func under(amount int, branches ...cond.Branch) tx.Out {
	return tx.Out{Amount: amount, Cond: cond.Cond{Branches: branches}}
}

// spend is a transaction that spends points by their first branches.
func spend(outs []tx.Out, points ...tx.Point) tx.Tx {
	x := tx.Tx{Outs: outs}
	for _, p := range points {
		x.Ins = append(x.Ins, tx.In{Point: p})
	}
	return x
}

// mint makes an output, which must be.
func mint(t *testing.T, l *ledger.Ledger, p tx.Point, o tx.Out, height int) {
	t.Helper()
	if err := l.Mint(p, o, height); err != nil {
		t.Fatalf("Mint of %v: %v", p, err)
	}
}

// signed is a book in which some signed a transaction, and nothing else.
func signed(x tx.Tx, who ...int) *oath.Book {
	b := oath.New()
	for _, w := range who {
		if err := b.Sign(w, tx.ID(x)); err != nil {
			panic(err)
		}
	}
	return b
}

// everybody are all parties.
func everybody() []int {
	var l []int
	for who := range api.MaxParty {
		l = append(l, who)
	}
	return l
}

// strangers are numbers that are no party's.
func strangers() []int {
	return []int{-1, -2, api.MaxParty, api.MaxParty + 1, 256, 1 << 32, math.MaxInt, math.MinInt}
}

// copied is an output that shares nothing.
func copied(o tx.Out) tx.Out {
	return tx.Out{Amount: o.Amount, Cond: cond.Or(o.Cond, cond.Cond{})}
}

// copiedTx is a transaction that shares nothing.
func copiedTx(x tx.Tx) tx.Tx {
	y := tx.Tx{Lock: x.Lock}
	for _, in := range x.Ins {
		in.Secret = slices.Clone(in.Secret)
		y.Ins = append(y.Ins, in)
	}
	for _, o := range x.Outs {
		y.Outs = append(y.Outs, copied(o))
	}
	return y
}

// item is an output that is not spent.
type item struct {
	p      tx.Point
	out    tx.Out
	height int
}

// plain is a ledger as a list of its outputs: what a Ledger is held against.
type plain []item

// find is an output's place, or -1.
func (l plain) find(p tx.Point) int {
	return slices.IndexFunc(l, func(i item) bool { return i.p == p })
}

// total is what all have together.
func (l plain) total() int {
	sum := 0
	for _, i := range l {
		sum += i.out.Amount
	}
	return sum
}

// points are all, in order, which is told here without tx.Less.
func (l plain) points() []tx.Point {
	var all []tx.Point
	for _, i := range l {
		all = append(all, i.p)
	}
	slices.SortFunc(all, func(a, b tx.Point) int {
		return cmp.Or(bytes.Compare(a.Tx[:], b.Tx[:]), cmp.Compare(a.N, b.N))
	})
	return all
}

// free is what outputs have together that a party alone can spend at once.
func (l plain) free(party int) int {
	sum := 0
	for _, i := range l {
		for _, b := range i.out.Cond.Branches {
			if reflect.DeepEqual(b, cond.Branch{Keys: []int{party}}) {
				sum += i.out.Amount
				break
			}
		}
	}
	return sum
}

// mint is Mint by its rule, and the list behind it.
func (l plain) mint(p tx.Point, o tx.Out, height int) (plain, api.Errno) {
	if height < 0 || height > api.MaxHeight {
		return l, api.ErrRange
	}
	if err := tx.Check(tx.Tx{Ins: []tx.In{{}}, Outs: []tx.Out{o}}); err != nil {
		return l, err.(api.Errno)
	}
	if l.find(p) >= 0 {
		return l, api.ErrTwice
	}
	if l.total()+o.Amount > api.MaxAmount {
		return l, api.ErrOver
	}
	return append(slices.Clip(l), item{p, copied(o), height}), 0
}

// apply is Apply by its rule, and the list behind it.
func (l plain) apply(x tx.Tx, height int, b *oath.Book) (plain, int, api.Errno) {
	if height < 0 || height > api.MaxHeight {
		return l, 0, api.ErrRange
	}
	if err := tx.Check(x); err != nil {
		return l, 0, err.(api.Errno)
	}
	if x.Lock > height {
		return l, 0, api.ErrEarly
	}
	fee, rest := 0, slices.Clone(l)
	for _, in := range x.Ins {
		at := rest.find(in.Point)
		if at < 0 {
			return l, 0, api.ErrSpent
		}
		age := 0
		if height > rest[at].height {
			age = height - rest[at].height
		}
		seen := cond.Seen{Signed: b.Who(tx.ID(x)), Secret: in.Secret, Height: height, Age: age}
		if err := cond.Opens(rest[at].out.Cond, in.Branch, seen); err != nil {
			return l, 0, err.(api.Errno)
		}
		fee += rest[at].out.Amount
		rest = slices.Delete(rest, at, at+1)
	}
	for _, o := range x.Outs {
		fee -= o.Amount
	}
	if fee < 0 {
		return l, 0, api.ErrFunds
	}
	for n, o := range x.Outs {
		if l.find(tx.At(x, n)) >= 0 {
			return l, 0, api.ErrTwice
		}
		rest = append(rest, item{tx.At(x, n), copied(o), height})
	}
	return rest, fee, 0
}

// check holds all that a ledger tells against the list: also what is not there, of which points can be named.
func (l plain) check(t *testing.T, what string, got *ledger.Ledger, gone ...tx.Point) {
	t.Helper()
	if n := got.Total(); n != l.total() {
		t.Errorf("%s: Total: %d, want %d", what, n, l.total())
	}
	if ps := got.Points(); !slices.Equal(ps, l.points()) {
		t.Errorf("%s: Points: %v, want %v", what, ps, l.points())
	}
	for _, i := range l {
		e, ok := got.Get(i.p)
		if !ok || e.Out.Amount != i.out.Amount || !cond.Same(e.Out.Cond, i.out.Cond) || e.Height != i.height {
			t.Errorf("%s: Get of %v: %v, %v, want %v", what, i.p, e, ok, i)
		}
		for _, p := range []tx.Point{{Tx: i.p.Tx, N: i.p.N + 1}, {Tx: i.p.Tx, N: -1 - i.p.N}, {Tx: sumOf(9, 99), N: i.p.N}} {
			gone = append(gone, p)
		}
	}
	for _, p := range gone {
		if e, ok := got.Get(p); l.find(p) < 0 && (ok || !reflect.DeepEqual(e, ledger.Entry{})) {
			t.Errorf("%s: Get of %v, which is not there: %v, %v", what, p, e, ok)
		}
	}
	for _, who := range slices.Concat(everybody(), strangers()) {
		if n := got.Has(who); n != l.free(who) {
			t.Errorf("%s: Has of %d: %d, want %d", what, who, n, l.free(who))
		}
	}
}

// some is a ledger, and the list of its outputs: points that are near one another, and conditions of all kinds.
func some(t *testing.T) (*ledger.Ledger, plain) {
	t.Helper()
	l, p := ledger.New(), plain(nil)
	for n := range 30 {
		o := out(10+n*n, n%api.MaxParty)
		switch n % 5 {
		case 1:
			o.Cond = cond.All(n%7, 7+n%9)
		case 2:
			o.Cond = cond.Or(cond.All(n%3, 9), cond.All(n%4))
		case 3:
			o.Cond.Branches[0].Older = n
		}
		mint(t, l, point(n), o, n*100)
		p = append(p, item{point(n), o, n * 100})
	}
	return l, p
}

// TestNew: LE1, a new ledger has nothing, and each one is its own.
func TestNew(t *testing.T) {
	l := ledger.New()
	if l == nil {
		t.Fatal("New: nil")
	}
	plain(nil).check(t, "new", l, tx.Point{}, point(1))
	mint(t, l, point(1), out(50, 1), 0)
	plain(nil).check(t, "another new one", ledger.New(), point(1))
}

// TestExample: LE1 to LE3, the example of the chapter.
func TestExample(t *testing.T) {
	l := ledger.New()
	mint(t, l, point(1), out(50, 1), 0)
	if l.Has(1) != 50 || l.Has(2) != 0 || l.Total() != 50 {
		t.Errorf("Has of 1 and 2, Total: %d, %d, %d", l.Has(1), l.Has(2), l.Total())
	}
	x := spend([]tx.Out{out(30, 2), out(15, 1)}, point(1))
	fee, err := l.Check(x, 7, signed(x, 1))
	wantFee(t, "Check", fee, err, 5, 0)
	fee, err = l.Apply(x, 7, signed(x, 1))
	wantFee(t, "Apply", fee, err, 5, 0)
	plain{{tx.At(x, 0), out(30, 2), 7}, {tx.At(x, 1), out(15, 1), 7}}.check(t, "behind it", l, point(1))
	if l.Has(1) != 15 || l.Has(2) != 30 || l.Total() != 45 {
		t.Errorf("behind it Has of 1 and 2, Total: %d, %d, %d", l.Has(1), l.Has(2), l.Total())
	}
}

// TestMint: LE1, outputs at their bounds are there, as they were handed in; whatever point it is, as no rule asks for more of it.
func TestMint(t *testing.T) {
	full := cond.Branch{Keys: everybody(), Lock: sumOf(31, 255), After: api.MaxHeight, Older: oldest}
	for _, c := range []item{
		{tx.Point{}, out(api.Dust, 0), 0},
		{tx.Point{}, out(api.Dust+1, 15), 1},
		{point(1), out(api.MaxAmount, 1, 2), api.MaxHeight},
		{point(2), out(api.MaxAmount-1, everybody()...), api.MaxHeight - 1},
		{point(3), under(10, slices.Repeat([]cond.Branch{full}, 8)...), 5},
		{tx.Point{Tx: sumOf(0, 255), N: 63}, out(100, 3), 6},
		{tx.Point{N: 64}, out(100, 3), 6},
		{tx.Point{N: -1}, out(100, 3), 6},
		{tx.Point{N: math.MaxInt}, out(100, 3), 6},
		{tx.Point{N: math.MinInt}, out(100, 3), 6},
	} {
		l := ledger.New()
		wantErr(t, fmt.Sprint("Mint of ", c), l.Mint(c.p, c.out, c.height), 0)
		plain{c}.check(t, "one output", l)
	}
	l, p := some(t)
	p.check(t, "some outputs", l)
}

// minted is what is handed to Mint, in a ledger that has a list already.
type minted struct {
	has    plain
	p      tx.Point
	o      tx.Out
	height int
}

// newMinted is one that Mint lets by, where there is something already.
func newMinted() minted {
	return minted{plain{{point(1), out(20, 1), 3}, {point(4), out(30, 2), 9}}, point(2), out(40, 3), 100}
}

// fault is something by which a call answers an error, where in the call's rule it stands, and which number it changes.
type fault[T any] struct {
	what  string
	rank  int
	want  api.Errno
	field string
	do    func(x *T)
}

// mintFaults are all kinds of what Mint does not let by.
func mintFaults() []fault[minted] {
	var l []fault[minted]
	add := func(what string, rank int, want api.Errno, field string, do func(m *minted)) {
		l = append(l, fault[minted]{what, rank, want, field, do})
	}
	for _, n := range []int{-1, math.MinInt, api.MaxHeight + 1, math.MaxInt} {
		add(fmt.Sprint("height ", n), 0, api.ErrRange, "height", func(m *minted) { m.height = n })
	}
	for _, n := range []int{9, 0, -1, math.MinInt} {
		add(fmt.Sprint("amount ", n), 1, api.ErrDust, "amount", func(m *minted) { m.o.Amount = n })
	}
	for _, n := range []int{api.MaxAmount + 1, 1 << 62, math.MaxInt} {
		add(fmt.Sprint("amount ", n), 1, api.ErrOver, "amount", func(m *minted) { m.o.Amount = n })
	}
	for i, c := range []cond.Cond{
		{},
		{Branches: []cond.Branch{{}}},
		{Branches: []cond.Branch{{Keys: []int{2, 1}}}},
		{Branches: []cond.Branch{{Keys: []int{1, 1}}}},
		{Branches: []cond.Branch{{Keys: []int{1}, After: -1}}},
		{Branches: []cond.Branch{{Keys: []int{1}, Older: oldest + 1}}},
		{Branches: slices.Repeat([]cond.Branch{{Keys: []int{1}}}, 9)},
		cond.All(16),
		cond.All(-1),
	} {
		add(fmt.Sprint("condition ", i), 2, api.ErrArg, "condition", func(m *minted) { m.o.Cond = c })
	}
	for i := range newMinted().has {
		add(fmt.Sprint("a point that is there: ", i), 3, api.ErrTwice, "point", func(m *minted) { m.p = m.has[i].p })
	}
	for _, n := range []int{api.MaxAmount - 49, api.MaxAmount - 10, api.MaxAmount} {
		add(fmt.Sprint("together with ", n), 4, api.ErrOver, "amount", func(m *minted) { m.o.Amount = n })
	}
	add("together with what is there", 4, api.ErrOver, "has", func(m *minted) { m.has[1].out.Amount = api.MaxAmount - 40 - 20 + 1 })
	return l
}

// wantMint does a Mint in a ledger of its own, and holds it, and what is there behind it, against what is asked for.
func wantMint(t *testing.T, what string, m minted, want api.Errno) {
	t.Helper()
	l := ledger.New()
	for _, i := range m.has {
		mint(t, l, i.p, i.out, i.height)
	}
	wantErr(t, what, l.Mint(m.p, m.o, m.height), want)
	if want == 0 {
		m.has = append(slices.Clip(m.has), item{m.p, m.o, m.height})
	}
	m.has.check(t, what, l, m.p)
}

// TestMintAlone: LE1, each error of Mint, alone; nothing is there then that was not.
func TestMintAlone(t *testing.T) {
	wantMint(t, "no fault", newMinted(), 0)
	for _, f := range mintFaults() {
		m := newMinted()
		f.do(&m)
		wantMint(t, f.what, m, f.want)
	}
}

// TestMintOrder: LE1, of two errors of Mint the one that the rule names first.
func TestMintOrder(t *testing.T) {
	for _, f := range mintFaults() {
		for _, g := range mintFaults() {
			if f.rank >= g.rank || f.field == g.field {
				continue
			}
			m := newMinted()
			g.do(&m)
			f.do(&m)
			wantMint(t, f.what+", "+g.what, m, f.want)
		}
	}
}

// TestMintAll: LE1, all errors of Mint together, and one after the other mended.
func TestMintAll(t *testing.T) {
	m := newMinted()
	m.height, m.p, m.o = -1, m.has[0].p, tx.Out{Amount: 9}
	for i, step := range []struct {
		want api.Errno
		mend func()
	}{
		{api.ErrRange, func() { m.height = 0 }},
		{api.ErrDust, func() { m.o.Amount = api.MaxAmount + 1 }},
		{api.ErrOver, func() { m.o.Amount = api.MaxAmount }},
		{api.ErrArg, func() { m.o.Cond = cond.All(5) }},
		{api.ErrTwice, func() { m.p = point(0) }},
		{api.ErrOver, func() { m.o.Amount = api.MaxAmount - 49 }},
		{api.ErrOver, func() { m.o.Amount = api.MaxAmount - 50 }},
		{0, func() {}},
	} {
		wantMint(t, fmt.Sprint("step ", i), m, step.want)
		step.mend()
	}
}

// TestMintTwice: LE1, a point is there by its sum and its number alone, whatever its output; and no more, once it is spent.
func TestMintTwice(t *testing.T) {
	l, p := some(t)
	for _, i := range p {
		wantErr(t, "the same again", l.Mint(i.p, i.out, i.height), api.ErrTwice)
		wantErr(t, "another output", l.Mint(i.p, out(77, 5), i.height+1), api.ErrTwice)
	}
	p.check(t, "behind what was there", l)
	x := spend([]tx.Out{out(10, 1)}, point(0))
	fee, err := l.Apply(x, 5000, signed(x, 0))
	wantFee(t, "Apply", fee, err, 0, 0)
	wantErr(t, "an output that is there", l.Mint(tx.At(x, 0), out(30, 4), 8), api.ErrTwice)
	wantErr(t, "a point whose output is spent", l.Mint(point(0), out(30, 4), 8), 0)
	p[0] = item{point(0), out(30, 4), 8}
	append(p, item{tx.At(x, 0), out(10, 1), 5000}).check(t, "minted again", l)
}

// TestMintTogether: LE1, all outputs have at most MaxAmount together; what was paid in fees is free again.
func TestMintTogether(t *testing.T) {
	l, p := ledger.New(), plain(nil)
	for n := range 64 {
		o := out(api.MaxAmount/64, n%api.MaxParty)
		mint(t, l, point(n), o, n)
		p = append(p, item{point(n), o, n})
	}
	p.check(t, "just MaxAmount", l)
	for _, n := range []int{10, 11, api.MaxAmount} {
		wantErr(t, fmt.Sprint(n, " more"), l.Mint(point(64), out(n, 1), 0), api.ErrOver)
	}
	x := spend([]tx.Out{out(api.MaxAmount/64-12, 1)}, point(7))
	fee, err := l.Apply(x, 100, signed(x, 7))
	wantFee(t, "Apply", fee, err, 12, 0)
	wantErr(t, "13 more", l.Mint(point(64), out(13, 1), 0), api.ErrOver)
	wantErr(t, "12 more", l.Mint(point(64), out(12, 1), 0), 0)
	wantErr(t, "10 more again", l.Mint(point(65), out(10, 1), 0), api.ErrOver)
	if got := l.Total(); got != api.MaxAmount {
		t.Errorf("Total: %d", got)
	}
}

// TestPoints: LE1, in order of their sums, byte by byte, then of their numbers, whatever the order in which they came.
func TestPoints(t *testing.T) {
	var want []tx.Point
	for _, h := range []api.Hash{{}, sumOf(31, 1), sumOf(31, 255), sumOf(30, 1), sumOf(1, 3), sumOf(0, 1), sumOf(0, 127), sumOf(0, 128), sumOf(0, 255)} {
		for _, n := range []int{math.MinInt, -1, 0, 1, 2, 10, 63, 255, 256, math.MaxInt} {
			want = append(want, tx.Point{Tx: h, N: n})
		}
	}
	for _, step := range []int{1, 7, 11, 29, 89} {
		l := ledger.New()
		for i := range want {
			mint(t, l, want[i*step%len(want)], out(10+i, i%api.MaxParty), i)
			if got := len(l.Points()); got != i+1 {
				t.Fatalf("Points of %d: %d", i+1, got)
			}
		}
		if got := l.Points(); !slices.Equal(got, want) {
			t.Errorf("Points, laid by steps of %d: %v", step, got)
		}
	}
}

// TestHas: LE1, an output counts for a party, if one of its branches asks for the party's signature, and for nothing else.
func TestHas(t *testing.T) {
	one := cond.Branch{Keys: []int{3}}
	with := func(do func(b *cond.Branch)) cond.Branch {
		b := cond.Branch{Keys: []int{3}}
		do(&b)
		return b
	}
	other := cond.Branch{Keys: []int{4}}
	two := cond.Branch{Keys: []int{3, 4}}
	lock := with(func(b *cond.Branch) { b.Lock = cond.Lock([]byte("a")) })
	first, last := with(func(b *cond.Branch) { b.Lock = sumOf(0, 1) }), with(func(b *cond.Branch) { b.Lock = sumOf(31, 1) })
	after, afterMost := with(func(b *cond.Branch) { b.After = 1 }), with(func(b *cond.Branch) { b.After = api.MaxHeight })
	older, olderMost := with(func(b *cond.Branch) { b.Older = 1 }), with(func(b *cond.Branch) { b.Older = oldest })
	asks := []cond.Branch{two, lock, first, last, after, afterMost, older, olderMost}
	for i, c := range []struct {
		branches    []cond.Branch
		three, four bool
	}{
		{[]cond.Branch{one}, true, false},
		{[]cond.Branch{other}, false, true},
		{[]cond.Branch{one, one}, true, false},
		{[]cond.Branch{one, other}, true, true},
		{[]cond.Branch{two, one}, true, false},
		{[]cond.Branch{lock, after, older, one}, true, false},
		{[]cond.Branch{one, lock, after, older}, true, false},
		{asks, false, false},
		{append(slices.Clone(asks[1:]), other), false, true},
		{append(slices.Clone(asks[1:]), one), true, false},
		{[]cond.Branch{{Keys: []int{2, 3}}}, false, false},
		{[]cond.Branch{{Keys: []int{0, 3, 15}}}, false, false},
		{[]cond.Branch{{Keys: everybody()}}, false, false},
	} {
		l := ledger.New()
		mint(t, l, point(1), under(100, c.branches...), 5)
		for who, has := range map[int]bool{3: c.three, 4: c.four, 0: false, 2: false, 15: false, -1: false, 16: false} {
			want := 0
			if has {
				want = 100
			}
			if got := l.Has(who); got != want {
				t.Errorf("output %d: Has of %d: %d, want %d", i, who, got, want)
			}
		}
	}
	for i, b := range asks {
		l := ledger.New()
		mint(t, l, point(1), under(100, b), 5)
		if got := l.Has(3); got != 0 {
			t.Errorf("what asks for more, %d: Has: %d", i, got)
		}
	}
}

// TestHasTogether: LE1, Has is what such outputs have together, of each party, be it the first, the last or one between; an output once, however many of its branches are the party's.
func TestHasTogether(t *testing.T) {
	for _, who := range everybody() {
		l := ledger.New()
		mint(t, l, point(1), out(100, who), 0)
		mint(t, l, point(2), under(1000, cond.Branch{Keys: []int{who}}, cond.Branch{Keys: []int{who}}), 0)
		mint(t, l, point(3), under(10000, cond.Branch{Keys: []int{who}, Older: 1}), 0)
		mint(t, l, point(4), out(100000, (who+1)%api.MaxParty), 0)
		for _, w := range everybody() {
			want := map[int]int{who: 1100, (who + 1) % api.MaxParty: 100000}[w]
			if got := l.Has(w); got != want {
				t.Errorf("Has of %d, where %d has some: %d, want %d", w, who, got, want)
			}
		}
	}
}

// scene is what Check is asked of: outputs that are there, a transaction, a height, who signed it, and which of its own outputs are there already.
type scene struct {
	has    plain
	x      tx.Tx
	height int
	who    []int
	taken  []int
}

// secret is what the input of a scene shows.
func secret(i int) []byte { return []byte{byte(i), 0, 255} }

// newScene is one that Check lets by, with a fee of 7: three inputs, each by a second branch that asks for two keys, a secret, a height, and an age, all of which are just met.
func newScene() scene {
	s := scene{height: 1000}
	for i := range 3 {
		asks := cond.Branch{Keys: []int{i, 10 + i}, Lock: cond.Lock(secret(i)), After: 1000, Older: 100 + i}
		s.has = append(s.has, item{point(i), under(100, cond.Branch{Keys: []int{9}}, asks), 900 - i})
		s.x.Ins = append(s.x.Ins, tx.In{Point: point(i), Branch: 1, Secret: secret(i)})
		s.who = append(s.who, i, 10+i)
	}
	s.x.Outs = []tx.Out{out(200, 1), out(50, 2), out(43, 3)}
	s.x.Lock = 1000
	return s
}

// laid are a scene's ledger, its list, and its book. Its own outputs are laid last, as their points hang on all of the transaction.
func (s scene) laid(t *testing.T) (*ledger.Ledger, plain, *oath.Book) {
	t.Helper()
	l, p := ledger.New(), plain(nil)
	has := slices.Clone(s.has)
	for _, n := range s.taken {
		has = append(has, item{tx.At(s.x, n), out(33, 4), 2})
	}
	for _, i := range has {
		mint(t, l, i.p, i.out, i.height)
		p = append(p, item{i.p, copied(i.out), i.height})
	}
	return l, p, signed(s.x, s.who...)
}

// want asks Check and then Apply, and holds both, and what is there behind each, against what is asked for.
func (s scene) want(t *testing.T, what string, want int, wantNo api.Errno) {
	t.Helper()
	l, p, b := s.laid(t)
	gone := []tx.Point{tx.At(s.x, len(s.x.Outs))}
	for n := range s.x.Outs {
		gone = append(gone, tx.At(s.x, n))
	}
	for _, in := range s.x.Ins {
		gone = append(gone, in.Point)
	}
	fee, err := l.Check(s.x, s.height, b)
	wantFee(t, what+": Check", fee, err, want, wantNo)
	p.check(t, what+": behind Check", l, gone...)
	fee, err = l.Apply(s.x, s.height, b)
	wantFee(t, what+": Apply", fee, err, want, wantNo)
	if wantNo == 0 {
		for _, in := range s.x.Ins {
			p = slices.Delete(p, p.find(in.Point), p.find(in.Point)+1)
		}
		for n, o := range s.x.Outs {
			p = append(p, item{tx.At(s.x, n), o, s.height})
		}
	}
	p.check(t, what+": behind Apply", l, gone...)
}

// Ranks of what Check's rule names, in its order; those of an input stand behind all those of the one ahead of it.
const (
	rankHeight = iota
	rankTx
	rankLock
	rankInput
	rankFunds = rankInput + 15
	rankTwice = rankFunds + 1
)

// wholeFaults are those of Check that are of no input, or that tx.Check finds.
func wholeFaults() []fault[scene] {
	var l []fault[scene]
	add := func(what string, rank int, want api.Errno, field string, do func(s *scene)) {
		l = append(l, fault[scene]{what, rank, want, field, do})
	}
	for _, n := range []int{-1, math.MinInt, api.MaxHeight + 1, math.MaxInt} {
		add(fmt.Sprint("height ", n), rankHeight, api.ErrRange, "height", func(s *scene) { s.height = n })
	}
	for _, n := range []int{-1, math.MinInt, api.MaxHeight + 1, math.MaxInt} {
		add(fmt.Sprint("Lock ", n), rankTx, api.ErrRange, "lock", func(s *scene) { s.x.Lock = n })
	}
	add("no input", rankTx, api.ErrRange, "inputs", func(s *scene) { s.x.Ins = nil })
	add("65 inputs", rankTx, api.ErrRange, "inputs", func(s *scene) { s.x.Ins = slices.Repeat(s.x.Ins, 22)[:65] })
	add("no output", rankTx, api.ErrRange, "outputs", func(s *scene) { s.x.Outs = nil })
	add("65 outputs", rankTx, api.ErrRange, "outputs", func(s *scene) { s.x.Outs = slices.Repeat(s.x.Outs, 22)[:65] })
	add("N 64", rankTx, api.ErrRange, "inputs", func(s *scene) { s.x.Ins[1].Point.N = 64 })
	add("Branch 8", rankTx, api.ErrRange, "inputs", func(s *scene) { s.x.Ins[2].Branch = 8 })
	add("Branch -1", rankTx, api.ErrRange, "inputs", func(s *scene) { s.x.Ins[2].Branch = -1 })
	add("a secret of 65", rankTx, api.ErrRange, "inputs", func(s *scene) { s.x.Ins[0].Secret = make([]byte, 65) })
	add("a point twice", rankTx, api.ErrTwice, "inputs", func(s *scene) { s.x.Ins[2].Point = s.x.Ins[0].Point })
	add("an output of 9", rankTx, api.ErrDust, "outputs", func(s *scene) { s.x.Outs[1].Amount = 9 })
	add("an output of too much", rankTx, api.ErrOver, "outputs", func(s *scene) { s.x.Outs[1].Amount = api.MaxAmount + 1 })
	add("an output without a condition", rankTx, api.ErrArg, "outputs", func(s *scene) { s.x.Outs[2].Cond = cond.Cond{} })
	add("outputs of too much together", rankTx, api.ErrOver, "outputs", func(s *scene) { s.x.Outs[2].Amount = api.MaxAmount - 249 })
	for _, n := range []int{1001, api.MaxHeight} {
		add(fmt.Sprint("Lock ", n), rankLock, api.ErrEarly, "lock", func(s *scene) { s.x.Lock = n })
	}
	add("Lock above a height just below", rankLock, api.ErrEarly, "height", func(s *scene) { s.height = 999 })
	for _, n := range []int{208, 209, 500, api.MaxAmount - 93} {
		add(fmt.Sprint("an output of ", n), rankFunds, api.ErrFunds, "funds", func(s *scene) {
			if len(s.x.Outs) > 0 {
				s.x.Outs[0].Amount = n
			}
		})
	}
	add("an input of less", rankFunds, api.ErrFunds, "has", func(s *scene) { s.has[1].out.Amount -= 8 })
	for n := range 3 {
		add(fmt.Sprint("output ", n, " there"), rankTwice, api.ErrTwice, "taken", func(s *scene) { s.taken = []int{n} })
	}
	add("all outputs there", rankTwice, api.ErrTwice, "taken", func(s *scene) { s.taken = []int{0, 1, 2} })
	return l
}

// inputFaults are those of Check's inputs, each of which changes a number of its own input alone.
func inputFaults() []fault[scene] {
	var l []fault[scene]
	for i := range 3 {
		add := func(what string, rank int, want api.Errno, field string, do func(s *scene)) {
			field = fmt.Sprint(field, " of ", i)
			l = append(l, fault[scene]{fmt.Sprint(what, " of input ", i), rankInput + 5*i + rank, want, field, do})
		}
		input := func(what string, rank int, want api.Errno, field string, do func(in *tx.In)) {
			add(what, rank, want, field, func(s *scene) {
				if i < len(s.x.Ins) {
					do(&s.x.Ins[i])
				}
			})
		}
		asks := func(what string, rank int, want api.Errno, field string, do func(b *cond.Branch)) {
			add(what, rank, want, field, func(s *scene) { do(&s.has[i].out.Cond.Branches[1]) })
		}
		add("no output", 0, api.ErrSpent, "point", func(s *scene) { s.has[i].p.Tx[7] ^= 1 })
		add("an output of another number", 0, api.ErrSpent, "point", func(s *scene) { s.has[i].p.N += 30 })
		input("a branch that is not there", 1, api.ErrRange, "branch", func(in *tx.In) { in.Branch = 2 })
		input("the last branch", 1, api.ErrRange, "branch", func(in *tx.In) { in.Branch = 7 })
		input("a branch of somebody else", 2, api.ErrSign, "branch", func(in *tx.In) { in.Branch = 0 })
		for _, who := range []int{i, 10 + i} {
			add(fmt.Sprint("no signature of ", who), 2, api.ErrSign, "signed", func(s *scene) {
				s.who = slices.DeleteFunc(s.who, func(w int) bool { return w == who })
			})
		}
		asks("one key more", 2, api.ErrSign, "keys", func(b *cond.Branch) { b.Keys = append(b.Keys, 15) })
		input("no secret", 3, api.ErrHash, "secret", func(in *tx.In) { in.Secret = nil })
		input("another secret", 3, api.ErrHash, "secret", func(in *tx.In) { in.Secret = secret(i + 1) })
		asks("another lock", 3, api.ErrHash, "lock asked", func(b *cond.Branch) { b.Lock[31] ^= 1 })
		asks("a height not reached", 4, api.ErrEarly, "after", func(b *cond.Branch) { b.After = 1001 })
		asks("an age not reached", 4, api.ErrEarly, "older", func(b *cond.Branch) { b.Older++ })
		add("an output one younger", 4, api.ErrEarly, "made", func(s *scene) { s.has[i].height++ })
		add("an output made later", 4, api.ErrEarly, "made", func(s *scene) { s.has[i].height = 5000 })
		add("an output made at the end", 4, api.ErrEarly, "made", func(s *scene) { s.has[i].height = api.MaxHeight })
	}
	return l
}

func sceneFaults() []fault[scene] { return slices.Concat(wholeFaults(), inputFaults()) }

// TestCheck: LE2, what is just met is let by; also with less asked for, and with more shown.
func TestCheck(t *testing.T) {
	newScene().want(t, "all just met", 7, 0)
	for what, do := range map[string]func(s *scene){
		"later":             func(s *scene) { s.height = 1001 },
		"much later":        func(s *scene) { s.height = api.MaxHeight },
		"no Lock":           func(s *scene) { s.x.Lock = 0 },
		"more signatures":   func(s *scene) { s.who = everybody() },
		"other branches":    func(s *scene) { s.x.Ins[1].Branch, s.who = 0, []int{0, 10, 9, 2, 12} },
		"no age asked for":  func(s *scene) { s.has[1].out.Cond.Branches[1].Older, s.has[1].height = 0, 5000 },
		"older":             func(s *scene) { s.has[2].height = 0 },
		"more outputs":      func(s *scene) { s.x.Outs = append(s.x.Outs[:2:2], out(10, 1), out(10, 1), out(13, 1), out(10, 1)) },
		"another one there": func(s *scene) { s.taken = []int{3} },
		"others there":      func(s *scene) { s.taken = []int{-1, 4, 63} },
		"others unspent":    func(s *scene) { s.has = append(s.has, item{point(90), out(1000, 1), 1}) },
	} {
		s := newScene()
		do(&s)
		s.want(t, what, 7, 0)
	}
	s := newScene()
	s.has[0].out.Cond.Branches[1].Lock = api.Hash{}
	s.x.Ins[0].Secret = []byte("whatever")
	s.want(t, "no lock, and a secret", 7, 0)
}

// TestCheckAlone: LE2, each error of Check, alone; Apply answers the same, and neither changes anything.
func TestCheckAlone(t *testing.T) {
	for _, f := range sceneFaults() {
		s := newScene()
		f.do(&s)
		s.want(t, f.what, 0, f.want)
	}
}

// TestCheckOrder: LE2, of two errors of Check the one that the rule names first, input by input.
func TestCheckOrder(t *testing.T) {
	for _, f := range sceneFaults() {
		for _, g := range sceneFaults() {
			if f.rank >= g.rank || f.field == g.field {
				continue
			}
			s := newScene()
			g.do(&s)
			f.do(&s)
			l, _, b := s.laid(t)
			fee, err := l.Check(s.x, s.height, b)
			wantFee(t, f.what+", "+g.what, fee, err, 0, f.want)
		}
	}
}

// TestCheckAll: LE2, all errors of Check together, and one after the other mended.
func TestCheckAll(t *testing.T) {
	s := newScene()
	s.height, s.x.Lock, s.who = -1, 1001, []int{1, 11}
	for i := range 3 {
		s.x.Ins[i].Branch, s.x.Ins[i].Secret, s.x.Ins[i].Point = 2, nil, point(50+i)
	}
	s.x.Outs[0].Amount = 9
	s.taken = []int{2}
	for i, step := range []struct {
		want api.Errno
		mend func()
	}{
		{api.ErrRange, func() { s.height = 999 }},
		{api.ErrDust, func() { s.x.Outs[0].Amount = 208 }},
		{api.ErrEarly, func() { s.x.Lock = 999 }},
		{api.ErrSpent, func() { s.x.Ins[0].Point = point(0) }},
		{api.ErrRange, func() { s.x.Ins[0].Branch = 1 }},
		{api.ErrSign, func() { s.who = append(s.who, 0) }},
		{api.ErrSign, func() { s.who = append(s.who, 10) }},
		{api.ErrHash, func() { s.x.Ins[0].Secret = secret(0) }},
		{api.ErrEarly, func() { s.height = 1000 }},
		{api.ErrSpent, func() { s.x.Ins[1].Point = point(1) }},
		{api.ErrRange, func() { s.x.Ins[1].Branch = 1 }},
		{api.ErrHash, func() { s.x.Ins[1].Secret = secret(1) }},
		{api.ErrSpent, func() { s.x.Ins[2].Point = point(2) }},
		{api.ErrRange, func() { s.x.Ins[2].Branch = 1 }},
		{api.ErrSign, func() { s.who = append(s.who, 2, 12) }},
		{api.ErrHash, func() { s.x.Ins[2].Secret = secret(2) }},
		{api.ErrFunds, func() { s.x.Outs[0].Amount = 207 }},
		{api.ErrTwice, func() { s.taken = nil }},
	} {
		s.want(t, fmt.Sprint("step ", i), 0, step.want)
		step.mend()
	}
	s.want(t, "all mended", 0, 0)
}

// TestSignatures: LE2, only signatures of this very transaction count, whatever secrets it shows; in no book, and in an empty one, nobody signed.
func TestSignatures(t *testing.T) {
	s := newScene()
	l, _, b := s.laid(t)
	for what, do := range map[string]func(x *tx.Tx){
		"another Lock":   func(x *tx.Tx) { x.Lock-- },
		"another amount": func(x *tx.Tx) { x.Outs[0].Amount-- },
		"another owner":  func(x *tx.Tx) { x.Outs[0].Cond = cond.All(5) },
		"an output less": func(x *tx.Tx) { x.Outs = x.Outs[:2] },
	} {
		x := copiedTx(s.x)
		do(&x)
		fee, err := l.Check(x, 1000, b)
		wantFee(t, what, fee, err, 0, api.ErrSign)
	}
	for what, none := range map[string]*oath.Book{"no book": nil, "an empty book": oath.New()} {
		fee, err := l.Check(s.x, 1000, none)
		wantFee(t, what, fee, err, 0, api.ErrSign)
		fee, err = l.Apply(s.x, 1000, none)
		wantFee(t, what, fee, err, 0, api.ErrSign)
	}
	bare := copiedTx(s.x)
	for i := range bare.Ins {
		bare.Ins[i].Secret = nil
	}
	fee, err := l.Check(s.x, 1000, signed(bare, s.who...))
	wantFee(t, "signed ahead of its secrets", fee, err, 7, 0)
	fee, err = l.Check(bare, 1000, b)
	wantFee(t, "its secrets not shown", fee, err, 0, api.ErrHash)
}

// TestBranches: LE2, the branch that an input names is the one that must open, and no other one.
func TestBranches(t *testing.T) {
	var branches []cond.Branch
	for n := range 8 {
		branches = append(branches, cond.Branch{Keys: []int{n}, Older: n})
	}
	for count := 1; count <= 8; count++ {
		l := ledger.New()
		mint(t, l, point(1), under(50, branches[:count]...), 10)
		for n := range 8 {
			x := spend([]tx.Out{out(40, 1)}, point(1))
			x.Ins[0].Branch = n
			for who := range 9 {
				for age := range 9 {
					want, wantFeeOf := api.Errno(0), 10
					switch {
					case n >= count:
						want = api.ErrRange
					case who != n:
						want = api.ErrSign
					case age < n:
						want = api.ErrEarly
					}
					if want != 0 {
						wantFeeOf = 0
					}
					fee, err := l.Check(x, 10+age, signed(x, who))
					wantFee(t, fmt.Sprint("branch ", n, " of ", count, ", by ", who, ", age ", age), fee, err, wantFeeOf, want)
				}
			}
		}
	}
}

// TestAges: LE2, an output's age is the height less its own, and 0, where the height is below it.
func TestAges(t *testing.T) {
	for _, older := range []int{0, 1, 2, 10, 255, 256, oldest - 1, oldest} {
		for _, made := range []int{0, 1, 77, 70000, api.MaxHeight - oldest, api.MaxHeight - 5, api.MaxHeight} {
			for _, age := range []int{-70000, -2, -1, 0, 1, older - 2, older - 1, older, older + 1, older * 2} {
				height := made + age
				if height < 0 || height > api.MaxHeight {
					continue
				}
				want, wantFeeOf := api.Errno(0), 10
				if older > 0 && age < older {
					want, wantFeeOf = api.ErrEarly, 0
				}
				l := ledger.New()
				mint(t, l, point(1), under(50, cond.Branch{Keys: []int{2}, Older: older}), made)
				x := spend([]tx.Out{out(40, 1)}, point(1))
				fee, err := l.Apply(x, height, signed(x, 2))
				wantFee(t, fmt.Sprint("Older ", older, " of one made at ", made, " at ", height), fee, err, wantFeeOf, want)
			}
		}
	}
}

// TestHeights: LE2, a branch's After and the transaction's Lock are held against the height that is handed in, whatever the output's age.
func TestHeights(t *testing.T) {
	heights := []int{0, 1, 2, 99, 100, 101, api.MaxHeight - 1, api.MaxHeight}
	for _, after := range heights {
		for _, lock := range heights {
			for _, height := range heights {
				want, wantFeeOf := api.Errno(0), 10
				if height < after || height < lock {
					want, wantFeeOf = api.ErrEarly, 0
				}
				l := ledger.New()
				mint(t, l, point(1), under(50, cond.Branch{Keys: []int{2}, After: after}), 100)
				x := spend([]tx.Out{out(40, 1)}, point(1))
				x.Lock = lock
				fee, err := l.Apply(x, height, signed(x, 2))
				wantFee(t, fmt.Sprint("After ", after, ", Lock ", lock, " at ", height), fee, err, wantFeeOf, want)
			}
		}
	}
}

// TestFee: LE2, what is spent less the outputs, of few and of many, small and great; not a coin more can go out.
func TestFee(t *testing.T) {
	for _, c := range []struct{ ins, outs []int }{
		{[]int{10}, []int{10}},
		{[]int{11}, []int{10}},
		{[]int{10, 10}, []int{10}},
		{[]int{10, 10}, []int{20}},
		{[]int{100, 30, 5000}, []int{10, 11, 12, 13}},
		{[]int{api.MaxAmount}, []int{10}},
		{[]int{api.MaxAmount}, []int{api.MaxAmount}},
		{[]int{api.MaxAmount - 10, 10}, []int{api.MaxAmount - 20, 10, 10}},
		{slices.Repeat([]int{api.MaxAmount / 64}, 64), slices.Repeat([]int{api.MaxAmount / 64}, 64)},
		{slices.Repeat([]int{api.MaxAmount / 64}, 64), slices.Repeat([]int{10}, 64)},
		{slices.Repeat([]int{10}, 64), []int{640}},
	} {
		s, fee := scene{height: 1, who: []int{1}}, 0
		for i, n := range c.ins {
			s.has = append(s.has, item{point(i), out(n, 1), 0})
			s.x.Ins = append(s.x.Ins, tx.In{Point: point(i)})
			fee += n
		}
		for _, n := range c.outs {
			s.x.Outs = append(s.x.Outs, out(n, 2))
			fee -= n
		}
		s.want(t, fmt.Sprint("fee of ", c), fee, 0)
		if s.x.Outs[0].Amount += fee; s.x.Outs[0].Amount > api.MaxAmount {
			continue
		}
		s.want(t, fmt.Sprint("no fee of ", c), 0, 0)
		if s.x.Outs[0].Amount++; tx.Check(s.x) == nil {
			s.want(t, fmt.Sprint("one more than ", c), 0, api.ErrFunds)
		}
	}
}

// TestOutputThere: LE2, each of a transaction's points must be free; those of numbers beyond its outputs don't stand in its way.
func TestOutputThere(t *testing.T) {
	for _, count := range []int{1, 2, 63, 64} {
		x := spend(slices.Repeat([]tx.Out{out(10, 2)}, count), point(1))
		for n := -1; n <= 64; n++ {
			l := ledger.New()
			mint(t, l, point(1), out(1000, 1), 0)
			mint(t, l, tx.At(x, n), out(50, 3), 0)
			want, wantFeeOf := api.Errno(0), 1000-10*count
			if n >= 0 && n < count {
				want, wantFeeOf = api.ErrTwice, 0
			}
			fee, err := l.Apply(x, 1, signed(x, 1))
			wantFee(t, fmt.Sprint("point ", n, " of ", count, " there"), fee, err, wantFeeOf, want)
			if e, ok := l.Get(tx.At(x, n)); !ok || e.Out.Amount != 50 {
				t.Errorf("point %d of %d: the output there is %v, %v", n, count, e, ok)
			}
		}
	}
}

// TestSpentIsGone: LE3, no output is spent twice: not by the same transaction, not by another one, and not with others beside it.
func TestSpentIsGone(t *testing.T) {
	l := ledger.New()
	mint(t, l, point(1), out(50, 1), 0)
	mint(t, l, point(2), out(60, 1), 0)
	x := spend([]tx.Out{out(50, 1)}, point(1))
	fee, err := l.Apply(x, 1, signed(x, 1))
	wantFee(t, "first", fee, err, 0, 0)
	for what, y := range map[string]tx.Tx{
		"the same":           x,
		"another one":        spend([]tx.Out{out(20, 1)}, point(1)),
		"with one there":     spend([]tx.Out{out(20, 1)}, point(2), point(1)),
		"ahead of one there": spend([]tx.Out{out(20, 1)}, point(1), point(2)),
	} {
		fee, err = l.Apply(y, 1, signed(y, 1))
		wantFee(t, what, fee, err, 0, api.ErrSpent)
	}
	twice := spend([]tx.Out{out(20, 1)}, point(2), point(2))
	fee, err = l.Apply(twice, 1, signed(twice, 1))
	wantFee(t, "one twice", fee, err, 0, api.ErrTwice)
	plain{{point(2), out(60, 1), 0}, {tx.At(x, 0), out(50, 1), 1}}.check(t, "behind them", l, point(1))
	// The same transaction again, where its input was minted anew: its output is there still, until that is spent, too.
	mint(t, l, point(1), out(55, 1), 2)
	fee, err = l.Apply(x, 3, signed(x, 1))
	wantFee(t, "again, its output there", fee, err, 0, api.ErrTwice)
	y := spend([]tx.Out{out(45, 2)}, tx.At(x, 0))
	fee, err = l.Apply(y, 3, signed(y, 1))
	wantFee(t, "its output", fee, err, 5, 0)
	fee, err = l.Apply(x, 4, signed(x, 1))
	wantFee(t, "again, its output spent", fee, err, 5, 0)
	plain{{point(2), out(60, 1), 0}, {tx.At(x, 0), out(50, 1), 4}, {tx.At(y, 0), out(45, 2), 3}}.check(t, "at last", l, point(1))
}

// TestConserved: LE3, over many transactions, one on top of the other, what outputs have together is what was minted, less all fees; what is refused changes nothing.
func TestConserved(t *testing.T) {
	l, p := ledger.New(), plain(nil)
	for n := range 20 {
		mint(t, l, point(n), out(100000, n%api.MaxParty), n)
		p = append(p, item{point(n), out(100000, n%api.MaxParty), n})
	}
	fees, done := 0, 0
	for step := range 400 {
		all := l.Points()
		x := spend(nil, all[step*7%len(all)])
		if next := all[(step*7+1)%len(all)]; step%3 == 0 && len(all) > 1 {
			x.Ins = append(x.Ins, tx.In{Point: next})
		}
		have, parts := 0, 1+step%4
		for _, in := range x.Ins {
			have += p[p.find(in.Point)].out.Amount
		}
		for n := range parts {
			x.Outs = append(x.Outs, out(have/parts*(90+(step*7+n*5)%18)/100, (step+n)%api.MaxParty))
		}
		b := signed(x, everybody()...)
		after, fee, no := p.apply(x, 1000+step, b)
		got, err := l.Apply(x, 1000+step, b)
		wantFee(t, fmt.Sprint("step ", step), got, err, fee, no)
		p = after
		if fees += fee; no == 0 {
			done++
		}
		if got := l.Total(); got != 20*100000-fees || got != p.total() {
			t.Fatalf("step %d: Total: %d, want %d", step, got, 20*100000-fees)
		}
	}
	p.check(t, "at last", l)
	if done < 50 || done > 350 {
		t.Errorf("%d of 400 were let by: too much alike", done)
	}
}

// TestClone: LE2, a clone has the same outputs, and either goes its own way.
func TestClone(t *testing.T) {
	l, p := some(t)
	c := l.Clone()
	if c == nil || c == l {
		t.Fatal("Clone: nil, or the ledger itself")
	}
	p.check(t, "clone", c)
	x := spend([]tx.Out{out(20, 5)}, point(5))
	y := spend([]tx.Out{out(30, 6)}, point(5))
	fee, err := l.Apply(x, 9000, signed(x, 5))
	wantFee(t, "in the ledger", fee, err, 15, 0)
	p.check(t, "clone of a ledger that goes on", c, tx.At(x, 0))
	fee, err = c.Apply(y, 9000, signed(y, 5))
	wantFee(t, "in the clone", fee, err, 5, 0)
	mint(t, c, point(50), out(70, 1), 3)
	mint(t, l, point(51), out(80, 1), 4)
	rest := slices.Delete(slices.Clone(p), 5, 6)
	inLedger := append(slices.Clip(rest), item{tx.At(x, 0), out(20, 5), 9000}, item{point(51), out(80, 1), 4})
	inClone := append(slices.Clip(rest), item{tx.At(y, 0), out(30, 6), 9000}, item{point(50), out(70, 1), 3})
	inLedger.check(t, "ledger", l, point(5), point(50), tx.At(y, 0))
	inClone.check(t, "clone that goes on", c, point(5), point(51), tx.At(x, 0))
	d := c.Clone()
	wantErr(t, "Mint in a clone of a clone", d.Mint(point(5), out(10, 1), 0), 0)
	inClone.check(t, "a clone that was cloned", c, point(5))
	e := ledger.New()
	mint(t, e.Clone(), point(1), out(10, 1), 0)
	plain(nil).check(t, "new ledger of a clone that goes on", e, point(1))
}

// TestCloneTogether: LE2, a clone knows what its outputs have together, as Mint asks for it.
func TestCloneTogether(t *testing.T) {
	l := ledger.New()
	mint(t, l, point(1), out(api.MaxAmount-20, 1), 0)
	c := l.Clone()
	wantErr(t, "21 more in the clone", c.Mint(point(2), out(21, 1), 0), api.ErrOver)
	wantErr(t, "20 more in the clone", c.Mint(point(2), out(20, 1), 0), 0)
	wantErr(t, "20 more in the ledger", l.Mint(point(2), out(20, 1), 0), 0)
}

// TestNil: LE2, a nil ledger answers ErrArg ahead of all other errors, and nothing.
func TestNil(t *testing.T) {
	var l *ledger.Ledger
	x := spend([]tx.Out{out(10, 1)}, point(1))
	for _, height := range []int{0, 1, -1, api.MaxHeight + 1} {
		wantErr(t, "Mint", l.Mint(point(1), out(10, 1), height), api.ErrArg)
		wantErr(t, "Mint of what can't be", l.Mint(point(1), tx.Out{}, height), api.ErrArg)
		for _, y := range []tx.Tx{x, {}} {
			for _, b := range []*oath.Book{nil, signed(x, 1)} {
				fee, err := l.Check(y, height, b)
				wantFee(t, "Check", fee, err, 0, api.ErrArg)
				fee, err = l.Apply(y, height, b)
				wantFee(t, "Apply", fee, err, 0, api.ErrArg)
			}
		}
	}
	plain(nil).check(t, "nil", l, point(1), tx.Point{})
	if c := l.Clone(); c != nil {
		t.Errorf("Clone: %v, want nothing", c)
	}
}

// fillOut overwrites an output, its lists, and their spare room.
func fillOut(o *tx.Out) {
	for i := range o.Cond.Branches {
		b := &o.Cond.Branches[i]
		for j := range b.Keys[:cap(b.Keys)] {
			b.Keys[:cap(b.Keys)][j] = 77
		}
		b.Lock, b.After, b.Older = sumOf(3, 3), 77, 77
	}
	o.Amount, o.Cond.Branches = 77, append(o.Cond.Branches, cond.Branch{Keys: []int{77}})
}

// roomy is an output of two branches whose lists have spare room.
func roomy(amount int) tx.Out {
	keys := func(n int) []int { return append(make([]int, 0, 8), n, n+5) }
	branches := append(make([]cond.Branch, 0, 4), cond.Branch{Keys: keys(1), Older: 4}, cond.Branch{Keys: keys(2)[:1]})
	return under(amount, branches...)
}

// TestMemoryIn: rule 3, what is handed in is not changed and not kept, spare room neither.
func TestMemoryIn(t *testing.T) {
	l, o := ledger.New(), roomy(50)
	mint(t, l, point(1), o, 3)
	want := plain{{point(1), roomy(50), 3}}
	want.check(t, "minted", l)
	if !reflect.DeepEqual(o, roomy(50)) {
		t.Errorf("Mint changed what was handed in: %v", o)
	}
	fillOut(&o)
	want.check(t, "what was minted overwritten", l)
	x := spend([]tx.Out{roomy(20), roomy(15)}, point(1))
	x.Ins[0].Branch, x.Ins[0].Secret = 1, []byte("a")
	before, b := copiedTx(x), signed(x, 2)
	for _, call := range []func(tx.Tx, int, *oath.Book) (int, error){l.Check, l.Apply} {
		fee, err := call(x, 5, b)
		wantFee(t, "what can be", fee, err, 15, 0)
		if !reflect.DeepEqual(x, before) || b.Len() != 1 || !b.Has(2, tx.ID(before)) {
			t.Errorf("what was handed in is changed: %v, %d signatures", x, b.Len())
		}
	}
	for i := range x.Outs {
		fillOut(&x.Outs[i])
	}
	x.Ins[0].Point, x.Ins[0].Secret[0] = point(9), 'b'
	plain{{tx.At(before, 0), roomy(20), 5}, {tx.At(before, 1), roomy(15), 5}}.check(t, "what was applied overwritten", l, point(1))
}

// TestMemoryShared: rule 3, outputs that are handed in with lists in common have none in common in the ledger.
func TestMemoryShared(t *testing.T) {
	keys := []int{1, 2}
	o := under(50, cond.Branch{Keys: keys[:1]}, cond.Branch{Keys: keys})
	l := ledger.New()
	mint(t, l, point(1), o, 0)
	e, _ := l.Get(point(1))
	_ = append(e.Out.Cond.Branches[0].Keys, 9)
	e.Out.Cond.Branches[0].Keys[0] = 7
	if got := e.Out.Cond.Branches[1].Keys; !slices.Equal(got, []int{1, 2}) {
		t.Errorf("two lists of one answer share: %v", got)
	}
	plain{{point(1), o, 0}}.check(t, "an answer overwritten", l)
}

// TestMemoryOut: rule 3, who overwrites an answer, or its spare room, changes neither the ledger, nor a clone, nor another answer.
func TestMemoryOut(t *testing.T) {
	l, p := some(t)
	c := l.Clone()
	for _, i := range p {
		e, _ := l.Get(i.p)
		again, _ := l.Get(i.p)
		fillOut(&e.Out)
		if !reflect.DeepEqual(again.Out, i.out) {
			t.Errorf("Get of %v: an answer changed with another one: %v", i.p, again.Out)
		}
		fillOut(&again.Out)
	}
	p.check(t, "what Get answered overwritten", l)
	p.check(t, "what Get answered overwritten, of a clone", c)
	first, second := l.Points(), l.Points()
	for i := range first {
		first[i] = point(99)
	}
	_ = append(first, point(98))
	if !slices.Equal(second, p.points()) {
		t.Error("Points: an answer changed with another one")
	}
	for i := range p.points() {
		if room := cap(l.Points()) - len(p); room != 0 {
			t.Fatalf("Points, asked %d times: room for %d more", i, room)
		}
	}
	p.check(t, "what Points answered overwritten", l)
}

// TestAskingChangesNothing: rule 4, what is asked leaves nothing, and the same answer comes again.
func TestAskingChangesNothing(t *testing.T) {
	l, p := some(t)
	for range 3 {
		p.check(t, "asked again", l, point(77))
		l.Clone()
		x := spend([]tx.Out{out(10, 1)}, point(0))
		fee, err := l.Check(x, 50, signed(x, 0))
		wantFee(t, "Check, again", fee, err, 0, 0)
	}
	a, _ := some(t)
	if !reflect.DeepEqual(a.Points(), l.Points()) || a.Total() != l.Total() {
		t.Error("two ledgers with the same outputs tell unlike things")
	}
}

// TestMany: rule 1, calls end at once, where many outputs are there.
func TestMany(t *testing.T) {
	const many = 20000
	l, b := ledger.New(), oath.New()
	at := func(n int) tx.Point { return tx.Point{Tx: api.Hash{byte(n), byte(n >> 8)}, N: n % api.MaxIO} }
	for n := range many {
		mint(t, l, at(n), out(20, n%api.MaxParty), n)
	}
	if l.Total() != 20*many || l.Has(3) != 20*many/api.MaxParty || len(l.Points()) != many {
		t.Errorf("Total, Has, Points of many: %d, %d, %d", l.Total(), l.Has(3), len(l.Points()))
	}
	for n := range many {
		x := spend([]tx.Out{out(15, 1)}, at(n))
		wantErr(t, "Sign", b.Sign(n%api.MaxParty, tx.ID(x)), 0)
		fee, err := l.Apply(x, n, b)
		wantFee(t, "Apply of one of many", fee, err, 5, 0)
	}
	if l.Total() != 15*many || l.Has(1) != 15*many || len(l.Points()) != many {
		t.Errorf("behind it Total, Has, Points: %d, %d, %d", l.Total(), l.Has(1), len(l.Points()))
	}
}

// FuzzLedger: LE1 to LE3, ledgers in which is minted and applied, and that are cloned, in any order, are the plain lists. Six bytes are a step.
func FuzzLedger(f *testing.F) {
	f.Add([]byte{0, 1, 40, 1, 5, 0, 0, 2, 50, 2, 6, 0, 64, 0, 20, 3, 200, 0, 64, 1, 10, 3, 200, 3})
	f.Add([]byte{0, 1, 90, 1, 5, 4, 0, 3, 80, 2, 6, 7, 192, 0, 0, 0, 0, 0, 96, 0, 30, 3, 200, 1, 224, 0, 30, 7, 100, 1, 64, 0, 20, 3, 50, 2})
	f.Add([]byte{0, 2, 99, 3, 1, 8, 64, 0, 70, 3, 9, 8, 64, 0, 60, 3, 10, 8, 64, 0, 50, 3, 30, 8, 0, 2, 8, 3, 1, 8, 0, 2, 99, 3, 255, 8})
	f.Fuzz(func(t *testing.T, steps []byte) {
		ledgers := [2]*ledger.Ledger{ledger.New(), ledger.New()}
		var lists [2]plain
		minted, fees := [2]int{}, [2]int{}
		for ; len(steps) >= 6; steps = steps[6:] {
			s := steps[:6]
			at := int(s[0] >> 7)
			l, p := ledgers[at], lists[at]
			height := int(s[4]) - 1
			o := under(int(s[2]), cond.Branch{Keys: []int{int(s[3] % 4)}, Older: int(s[5] % 9)}, cond.Branch{Keys: []int{int(s[3] % 3), 3}, After: int(s[5])})
			switch s[0] >> 5 & 3 {
			case 0:
				after, no := p.mint(point(int(s[1]%8)), o, height)
				wantErr(t, "Mint", l.Mint(point(int(s[1]%8)), o, height), no)
				minted[at] += after.total() - p.total()
				lists[at] = after
			case 1:
				ledgers[at], lists[at] = ledgers[1-at].Clone(), slices.Clone(lists[1-at])
				minted[at], fees[at] = minted[1-at], fees[1-at]
			default:
				x := spend([]tx.Out{o}, point(int(s[1]%8)))
				if all := l.Points(); len(all) > 0 {
					x.Ins[0].Point = all[int(s[1])%len(all)]
				}
				x.Lock, x.Ins[0].Branch = int(s[0]&31), int(s[0]&1)
				if s[0]&2 != 0 {
					x.Ins = append(x.Ins, tx.In{Point: point(int(s[5] % 8))})
				}
				b := signed(x, int(s[3]>>2%4), int(s[3]>>4%4), int(s[3]>>6))
				after, fee, no := p.apply(x, height, b)
				got, err := l.Check(x, height, b)
				wantFee(t, "Check", got, err, fee, no)
				got, err = l.Apply(x, height, b)
				wantFee(t, "Apply", got, err, fee, no)
				fees[at] += fee
				lists[at] = after
			}
		}
		for at, l := range ledgers {
			lists[at].check(t, fmt.Sprint("ledger ", at), l)
			if got := l.Total(); got != minted[at]-fees[at] {
				t.Errorf("ledger %d: Total: %d, minted %d, fees %d", at, got, minted[at], fees[at])
			}
		}
	})
}
