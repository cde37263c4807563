package pool_test

import (
	"errors"
	"fmt"
	"math"
	"reflect"
	"slices"
	"testing"

	"bayou/api"
	"bayou/cond"
	"bayou/pool"
	"bayou/tx"
)

// wantErr holds an error against the number that is asked for; 0: none.
func wantErr(t *testing.T, what string, err error, want api.Errno) {
	t.Helper()
	var got api.Errno
	switch {
	case want == 0 && err != nil:
		t.Errorf("%s: %v, want no error", what, err)
	case want != 0 && (!errors.As(err, &got) || got != want):
		t.Errorf("%s: %v, want %v", what, err, want)
	}
}

// wantIDs holds IDs against those of transactions, in their order.
func wantIDs(t *testing.T, what string, got []api.Hash, want ...tx.Tx) {
	t.Helper()
	if !slices.Equal(got, idsOf(want)) {
		t.Errorf("%s: %d IDs %x, want those of %v", what, len(got), got, want)
	}
}

// idsOf are the IDs of transactions.
func idsOf(l []tx.Tx) []api.Hash {
	var all []api.Hash
	for _, x := range l {
		all = append(all, tx.ID(x))
	}
	return all
}

// point is one of many points: sums unlike in the first byte alone, or in the last one alone, or points unlike in the number alone.
func point(n int) tx.Point {
	switch n % 3 {
	case 0:
		return tx.Point{Tx: api.Hash{0: byte(n), 5: byte(n >> 8)}}
	case 1:
		return tx.Point{Tx: api.Hash{31: byte(n), 6: byte(n >> 8)}, N: 2}
	}
	return tx.Point{Tx: api.Hash{15: 7}, N: n}
}

// spend is a transaction with a mark, by which its ID is its own, that spends points.
func spend(mark int, points ...int) tx.Tx {
	x := tx.Tx{Lock: mark, Outs: []tx.Out{{Amount: 10 + mark, Cond: cond.All(mark%api.MaxParty, 16-mark%api.MaxParty)}}}
	for i, n := range points {
		x.Ins = append(x.Ins, tx.In{Point: point(n), Branch: i % 8, Secret: []byte{byte(mark), byte(n)}})
	}
	return x
}

// copied is a transaction that shares nothing.
func copied(x tx.Tx) tx.Tx {
	y := tx.Tx{Lock: x.Lock}
	for _, in := range x.Ins {
		y.Ins = append(y.Ins, tx.In{Point: in.Point, Branch: in.Branch, Secret: append([]byte(nil), in.Secret...)})
	}
	for _, o := range x.Outs {
		c := tx.Out{Amount: o.Amount}
		for _, b := range o.Cond.Branches {
			b.Keys = append([]int(nil), b.Keys...)
			c.Cond.Branches = append(c.Cond.Branches, b)
		}
		y.Outs = append(y.Outs, c)
	}
	return y
}

// same tells whether two transactions are the same, secrets too; nil and the empty list are.
func same(a, b tx.Tx) bool { return reflect.DeepEqual(copied(a), copied(b)) }

// newPool is a pool for so many, which must be.
func newPool(t *testing.T, limit int) *pool.Pool {
	t.Helper()
	p, err := pool.New(limit)
	if err != nil || p == nil {
		t.Fatalf("New of %d: %v, %v", limit, p, err)
	}
	return p
}

// add lays a transaction in, which must be let by.
func add(t *testing.T, p *pool.Pool, x tx.Tx, fee int) []api.Hash {
	t.Helper()
	gone, err := p.Add(x, fee)
	if err != nil {
		t.Fatalf("Add of %v for %d: %v", x, fee, err)
	}
	return gone
}

// item is a transaction that waits.
type item struct {
	x   tx.Tx
	fee int
}

// plain is a pool as a list, in the order in which they were laid in: what a Pool is held against.
type plain struct {
	limit int
	items []item
}

// order is the pool's order: again and again the first one of those that pay most.
func (l plain) order() []item {
	rest, all := slices.Clone(l.items), []item(nil)
	for len(rest) > 0 {
		best := 0
		for i := range rest {
			if rest[i].fee > rest[best].fee {
				best = i
			}
		}
		all = append(all, rest[best])
		rest = slices.Delete(rest, best, best+1)
	}
	return all
}

// clashes are those that spend what a transaction spends, in the pool's order.
func (l plain) clashes(x tx.Tx) []item {
	var all []item
	for _, i := range l.order() {
		if inCommon(i.x, x) {
			all = append(all, i)
		}
	}
	return all
}

// inCommon tells whether two transactions spend the same output.
func inCommon(a, b tx.Tx) bool {
	for _, i := range a.Ins {
		for _, j := range b.Ins {
			if i.Point == j.Point {
				return true
			}
		}
	}
	return false
}

// find is the place of one with an ID, or -1.
func (l plain) find(id api.Hash) int {
	return slices.IndexFunc(l.items, func(i item) bool { return tx.ID(i.x) == id })
}

// without is the list without one, if that is there.
func (l plain) without(id api.Hash) plain {
	at := l.find(id)
	if at < 0 {
		return l
	}
	return plain{l.limit, slices.Concat(l.items[:at], l.items[at+1:])}
}

// add is Add by its rule: the list behind it, and those that are gone.
func (l plain) add(x tx.Tx, fee int) (plain, []tx.Tx, api.Errno) {
	if fee < 0 || fee > api.MaxAmount {
		return l, nil, api.ErrArg
	}
	if l.find(tx.ID(x)) >= 0 {
		return l, nil, api.ErrTwice
	}
	others, sum, after := l.clashes(x), 0, l
	var gone []tx.Tx
	for _, o := range others {
		sum += o.fee
		gone = append(gone, o.x)
		after = after.without(tx.ID(o.x))
	}
	if len(others) > 0 && fee <= sum {
		return l, nil, api.ErrFee
	}
	if len(after.items) >= l.limit {
		return l, nil, api.ErrFull
	}
	return plain{l.limit, append(slices.Clip(after.items), item{copied(x), fee})}, gone, 0
}

// check holds all that a pool tells against the list, and looks for two that spend the same; of transactions that don't wait, too.
func (l plain) check(t *testing.T, what string, p *pool.Pool, others ...tx.Tx) {
	t.Helper()
	if n := p.Len(); n != len(l.items) {
		t.Errorf("%s: Len: %d, want %d", what, n, len(l.items))
	}
	got, want := p.Order(), l.order()
	if len(got) != len(want) {
		t.Fatalf("%s: Order: %d, want %d", what, len(got), len(want))
	}
	for i := range got {
		if !same(got[i], want[i].x) {
			t.Errorf("%s: Order, at %d: %v, want %v", what, i, got[i], want[i].x)
		}
		for j := range i {
			if inCommon(got[i], got[j]) {
				t.Errorf("%s: two that wait spend the same: %v, %v", what, got[i], got[j])
			}
		}
		others = append(others, want[i].x)
	}
	for _, x := range others {
		if has := p.Has(tx.ID(x)); has != (l.find(tx.ID(x)) >= 0) {
			t.Errorf("%s: Has of %v: %v", what, x, has)
		}
		var with []tx.Tx
		for _, i := range l.clashes(x) {
			with = append(with, i.x)
		}
		wantIDs(t, what+": Clashes", p.Clashes(x), with...)
	}
}

// takeAll takes all out, one behind the other, and holds them against the list.
func (l plain) takeAll(t *testing.T, what string, p *pool.Pool) {
	t.Helper()
	before := math.MaxInt
	for n, want := range l.order() {
		x, fee, err := p.Take()
		wantErr(t, fmt.Sprint(what, ": Take ", n), err, 0)
		if !same(x, want.x) || fee != want.fee {
			t.Errorf("%s: Take %d: %v for %d, want %v for %d", what, n, x, fee, want.x, want.fee)
		}
		if fee > before {
			t.Errorf("%s: Take %d pays %d, more than %d", what, n, fee, before)
		}
		before = fee
		l = l.without(tx.ID(want.x))
		if p.Has(tx.ID(x)) || p.Len() != len(l.items) || len(p.Clashes(x)) != 0 {
			t.Errorf("%s: Take %d: it waits still", what, n)
		}
	}
	x, fee, err := p.Take()
	wantErr(t, what+": Take of none", err, api.ErrNone)
	if !reflect.DeepEqual(x, tx.Tx{}) || fee != 0 {
		t.Errorf("%s: Take of none: %v, %d", what, x, fee)
	}
	plain{limit: l.limit}.check(t, what+": all taken", p)
}

// some is a pool for more than it has, and the list of it: fees that are often the same, laid in with no order among them.
func some(t *testing.T, limit int) (*pool.Pool, plain) {
	t.Helper()
	p, l := newPool(t, limit), plain{limit: limit}
	for i, fee := range []int{7, 0, 30, 7, 12, 30, 1, 7, 0, 12, 30, 99, 7, 5} {
		x := spend(100+i, 10*i, 10*i+1, 10*i+2)
		if gone := add(t, p, x, fee); len(gone) != 0 {
			t.Fatalf("%d are gone", len(gone))
		}
		l.items = append(l.items, item{x, fee})
	}
	return p, l
}

// TestNew: PO1, limits at and beyond their bounds; a new pool has nothing, and each one is its own.
func TestNew(t *testing.T) {
	for _, limit := range []int{1, 2, 3, 64, api.MaxList - 1, api.MaxList} {
		plain{limit: limit}.check(t, fmt.Sprint("limit ", limit), newPool(t, limit), tx.Tx{}, spend(1, 1))
	}
	for _, limit := range []int{0, -1, -2, math.MinInt, api.MaxList + 1, api.MaxList + 2, 1<<32 + 1, math.MaxInt} {
		p, err := pool.New(limit)
		wantErr(t, fmt.Sprint("New of ", limit), err, api.ErrArg)
		if p != nil {
			t.Errorf("New of %d: a pool", limit)
		}
	}
	p, q := newPool(t, 2), newPool(t, 2)
	add(t, p, spend(1, 1), 5)
	plain{limit: 2}.check(t, "another one", q, spend(1, 1))
}

// TestLimit: PO1, as many as the limit wait, whatever it is, and not one more.
func TestLimit(t *testing.T) {
	for _, limit := range []int{1, 2, 3, 7, 64, api.MaxList - 1, api.MaxList} {
		p := newPool(t, limit)
		for n := range limit {
			add(t, p, spend(n, n), n%5)
		}
		gone, err := p.Add(spend(limit, limit), api.MaxAmount)
		wantErr(t, fmt.Sprint("one more than ", limit), err, api.ErrFull)
		wantIDs(t, "one more", gone)
		if p.Len() != limit || p.Has(tx.ID(spend(limit, limit))) {
			t.Errorf("limit %d: %d wait", limit, p.Len())
		}
	}
}

// TestExample: PO1, the example of the chapter.
func TestExample(t *testing.T) {
	p, l := newPool(t, 3), plain{limit: 3}
	for i, fee := range []int{5, 9, 9} {
		x := spend(i, i)
		add(t, p, x, fee)
		l.items = append(l.items, item{x, fee})
	}
	for i, mark := range []int{1, 2, 0} {
		if got := p.Order()[i]; got.Lock != mark {
			t.Errorf("Order, at %d: %d, want %d", i, got.Lock, mark)
		}
	}
	l.check(t, "all three", p)
	l.takeAll(t, "all three", p)
}

// TestAddFee: PO1, fees at and beyond their bounds.
func TestAddFee(t *testing.T) {
	p, l := newPool(t, 9), plain{limit: 9}
	for i, fee := range []int{0, 1, api.MaxAmount - 1, api.MaxAmount} {
		x := spend(i, i)
		wantIDs(t, "Add", add(t, p, x, fee))
		l.items = append(l.items, item{x, fee})
	}
	for _, fee := range []int{-1, -2, math.MinInt, api.MaxAmount + 1, 1 << 62, math.MaxInt} {
		gone, err := p.Add(spend(50, 50), fee)
		wantErr(t, fmt.Sprint("fee ", fee), err, api.ErrArg)
		wantIDs(t, "a fee that can't be", gone)
	}
	l.check(t, "behind them", p, spend(50, 50))
	l.takeAll(t, "behind them", p)
}

// TestAddTwice: PO1, one with its ID waits, whatever the fee, and where its secrets differ, too; else it does not.
func TestAddTwice(t *testing.T) {
	p, l := some(t, 50)
	for _, i := range l.items {
		other := copied(i.x)
		for n := range other.Ins {
			other.Ins[n].Secret = append([]byte("longer"), byte(n))
		}
		bare := copied(i.x)
		for n := range bare.Ins {
			bare.Ins[n].Secret = nil
		}
		for what, x := range map[string]tx.Tx{"the same": i.x, "other secrets": other, "no secrets": bare} {
			for _, fee := range []int{0, i.fee, i.fee + 1, api.MaxAmount} {
				gone, err := p.Add(x, fee)
				wantErr(t, fmt.Sprint(what, " for ", fee), err, api.ErrTwice)
				wantIDs(t, what, gone)
			}
		}
	}
	l.check(t, "behind them", p)
	l.takeAll(t, "behind them", p)
}

// TestAddAlike: PO1, what is unlike one that waits in anything but the secrets has another ID: it clashes with that one, and takes its place.
func TestAddAlike(t *testing.T) {
	was := spend(20, 1, 2)
	for what, do := range map[string]func(x *tx.Tx){
		"lock":       func(x *tx.Tx) { x.Lock++ },
		"branch":     func(x *tx.Tx) { x.Ins[1].Branch++ },
		"point":      func(x *tx.Tx) { x.Ins[1].Point.N++ },
		"one less":   func(x *tx.Tx) { x.Ins = x.Ins[:1] },
		"one more":   func(x *tx.Tx) { x.Ins = append(x.Ins, tx.In{Point: point(3)}) },
		"the order":  func(x *tx.Tx) { x.Ins[0], x.Ins[1] = x.Ins[1], x.Ins[0] },
		"amount":     func(x *tx.Tx) { x.Outs[0].Amount++ },
		"key":        func(x *tx.Tx) { x.Outs[0].Cond.Branches[0].Keys[0]++ },
		"no outputs": func(x *tx.Tx) { x.Outs = nil },
	} {
		p := newPool(t, 1)
		add(t, p, was, 10)
		x := copied(was)
		do(&x)
		gone, err := p.Add(x, 10)
		wantErr(t, what+", the same fee", err, api.ErrFee)
		wantIDs(t, what, gone)
		wantIDs(t, what, add(t, p, x, 11), was)
		plain{1, []item{{x, 11}}}.check(t, what, p, was)
	}
}

// TestAddAgain: PO1, what waits no more may be laid in again, and is then the last one of its fee: what was taken, dropped, or lost its place.
func TestAddAgain(t *testing.T) {
	for what, remove := range map[string]func(p *pool.Pool, x tx.Tx) error{
		"taken":   func(p *pool.Pool, x tx.Tx) error { _, _, err := p.Take(); return err },
		"dropped": func(p *pool.Pool, x tx.Tx) error { return p.Drop(tx.ID(x)) },
		"its place taken": func(p *pool.Pool, x tx.Tx) error {
			y := spend(70, 1)
			_, err := p.Add(y, 8)
			return errors.Join(err, p.Drop(tx.ID(y)))
		},
	} {
		p := newPool(t, 3)
		x := spend(1, 1)
		add(t, p, x, 7)
		add(t, p, spend(2, 2), 7)
		add(t, p, spend(3, 3), 7)
		wantErr(t, what, remove(p, x), 0)
		plain{3, []item{{spend(2, 2), 7}, {spend(3, 3), 7}}}.check(t, what, p, x)
		wantIDs(t, what, add(t, p, x, 7))
		l := plain{3, []item{{spend(2, 2), 7}, {spend(3, 3), 7}, {x, 7}}}
		l.check(t, what+", laid in again", p)
		l.takeAll(t, what+", laid in again", p)
	}
}

// TestAddClash: PO1, others spend what it spends, one and more of them, and its fee is below, at and above all of theirs together; each is counted once, however much they have in common.
func TestAddClash(t *testing.T) {
	for _, c := range []struct {
		what   string
		points []int
		with   []int // in the pool's order
	}{
		{"one, its first point", []int{20}, []int{2}},
		{"one, its last point", []int{42}, []int{4}},
		{"one, among others' points", []int{500, 41, 501}, []int{4}},
		{"one, all its points", []int{22, 20, 21}, []int{2}},
		{"one, twice the same point", []int{21, 21}, []int{2}},
		{"one that pays nothing", []int{10}, []int{1}},
		{"two that pay nothing", []int{82, 11}, []int{1, 8}},
		{"two of unlike fees", []int{40, 20}, []int{2, 4}},
		{"two of unlike fees, the other way", []int{20, 40}, []int{2, 4}},
		{"two of one fee", []int{70, 0}, []int{0, 7}},
		{"two, more points of each", []int{72, 1, 71, 0, 70, 2}, []int{0, 7}},
		{"the first one and the last one", []int{12, 500, 112}, []int{11, 1}},
		{"four", []int{130, 50, 30, 110}, []int{11, 5, 3, 13}},
		{"all", []int{0, 10, 20, 30, 40, 50, 60, 70, 80, 90, 100, 110, 120, 130}, []int{11, 2, 5, 10, 4, 9, 0, 3, 7, 12, 13, 6, 1, 8}},
	} {
		for _, limit := range []int{14, 15, api.MaxList} {
			p, l := some(t, limit)
			x, sum := spend(9, c.points...), 0
			var with []tx.Tx
			after := l
			for _, n := range c.with {
				sum += l.items[n].fee
				with = append(with, l.items[n].x)
				after = after.without(tx.ID(l.items[n].x))
			}
			wantIDs(t, c.what+": Clashes", p.Clashes(x), with...)
			for fee := max(0, sum-2); fee <= sum; fee++ {
				gone, err := p.Add(x, fee)
				wantErr(t, fmt.Sprint(c.what, " for ", fee, " of ", sum), err, api.ErrFee)
				wantIDs(t, c.what, gone)
			}
			l.check(t, c.what+": refused", p, x)
			wantIDs(t, c.what+": gone", add(t, p, x, sum+1), with...)
			after.items = append(slices.Clip(after.items), item{x, sum + 1})
			after.check(t, c.what+": laid in", p, with...)
			after.takeAll(t, c.what+": laid in", p)
		}
	}
}

// TestAddTogether: PO1, fees that are more than MaxAmount together are so; nothing can be above them.
func TestAddTogether(t *testing.T) {
	half := api.MaxAmount / 2
	for _, c := range []struct {
		first, second int
		want          api.Errno
	}{
		{half, half, api.ErrFee},
		{half, half - 1, 0},
		{half, half + 1, api.ErrFee},
		{api.MaxAmount, 0, api.ErrFee},
		{api.MaxAmount - 1, 0, 0},
		{api.MaxAmount, api.MaxAmount, api.ErrFee},
	} {
		p := newPool(t, 2)
		add(t, p, spend(1, 1), c.first)
		add(t, p, spend(2, 2), c.second)
		_, err := p.Add(spend(3, 1, 2), api.MaxAmount)
		wantErr(t, fmt.Sprint(c), err, c.want)
	}
	p := newPool(t, api.MaxList)
	var all []int
	for n := range api.MaxList {
		add(t, p, spend(n, n), api.MaxAmount)
		all = append(all, n)
	}
	for _, few := range []int{4, 8, 16, 1024, 2048, 4095, 4096} {
		_, err := p.Add(spend(api.MaxList, all[:few]...), api.MaxAmount)
		wantErr(t, fmt.Sprint(few, " that pay MaxAmount"), err, api.ErrFee)
	}
	if p.Len() != api.MaxList {
		t.Errorf("Len: %d", p.Len())
	}
}

// TestAddFull: PO1, as many as the limit wait: there is no room, but for one that takes the place of others, whose rooms are free again.
func TestAddFull(t *testing.T) {
	p, l := some(t, 14)
	full := func(what string, x tx.Tx, fee int, want api.Errno) {
		t.Helper()
		gone, err := p.Add(x, fee)
		wantErr(t, what, err, want)
		wantIDs(t, what, gone)
		l.check(t, what, p, x)
	}
	full("no clash", spend(9, 500), 0, api.ErrFull)
	full("no clash, all that can be paid", spend(9, 500), api.MaxAmount, api.ErrFull)
	full("no inputs", spend(9), 40, api.ErrFull)
	full("a clash, too small a fee", spend(9, 20), 30, api.ErrFee)
	wantIDs(t, "one's place", add(t, p, spend(9, 20), 31), l.items[2].x)
	l, _, _ = l.add(spend(9, 20), 31)
	full("full again", spend(8, 501), 1000, api.ErrFull)
	wantIDs(t, "three's place", add(t, p, spend(8, 0, 10, 30), 15), l.items[0].x, l.items[2].x, l.items[1].x)
	l, _, _ = l.add(spend(8, 0, 10, 30), 15)
	for n := range 2 {
		wantIDs(t, "a room that is free", add(t, p, spend(30+n, 600+n), n))
		l, _, _ = l.add(spend(30+n, 600+n), n)
	}
	full("full once more", spend(7, 502), 1000, api.ErrFull)
	wantErr(t, "Drop", p.Drop(tx.ID(spend(30, 600))), 0)
	l = l.without(tx.ID(spend(30, 600)))
	wantErr(t, "Drop of none", p.Drop(tx.ID(spend(30, 600))), api.ErrNone)
	add(t, p, spend(7, 502), 1)
	l, _, _ = l.add(spend(7, 502), 1)
	full("full behind a Drop", spend(6, 503), 1000, api.ErrFull)
	first, _, err := p.Take()
	wantErr(t, "Take", err, 0)
	l = l.without(tx.ID(first))
	add(t, p, spend(6, 503), 1)
	l, _, _ = l.add(spend(6, 503), 1)
	full("full behind a Take", spend(5, 504), 1000, api.ErrFull)
	l.takeAll(t, "at last", p)
}

// laid is what is handed to Add, in a pool that has a list already.
type laid struct {
	has plain
	x   tx.Tx
	fee int
}

// newLaid is one that Add lets by, where there is something already, and just room for it.
func newLaid() laid {
	return laid{plain{4, []item{{spend(1, 1, 2), 10}, {spend(2, 3), 20}, {spend(3, 4), 10}}}, spend(4, 5), 15}
}

// fault is something by which Add answers an error, where in the rule it stands, and what it changes.
type fault struct {
	what  string
	rank  int
	want  api.Errno
	field string
	do    func(l *laid)
}

// faults are all kinds of what Add does not let by.
func faults() []fault {
	var l []fault
	for _, n := range []int{-1, math.MinInt, api.MaxAmount + 1, math.MaxInt} {
		l = append(l, fault{fmt.Sprint("fee ", n), 0, api.ErrArg, "fee", func(l *laid) { l.fee = n }})
	}
	for i := range newLaid().has.items {
		l = append(l, fault{fmt.Sprint("the one at ", i), 1, api.ErrTwice, "x", func(l *laid) { l.x = copied(l.has.items[i].x) }})
		l = append(l, fault{fmt.Sprint("the one at ", i, " but for a secret"), 1, api.ErrTwice, "x", func(l *laid) {
			l.x = copied(l.has.items[i].x)
			l.x.Ins[0].Secret = []byte("another")
		}})
	}
	for _, points := range [][]int{{3}, {5, 3}, {1, 4}, {2, 5, 4, 3}} {
		l = append(l, fault{fmt.Sprint("points ", points), 2, api.ErrFee, "x", func(l *laid) { l.x = spend(4, points...) }})
	}
	l = append(l, fault{"limit 3", 3, api.ErrFull, "limit", func(l *laid) { l.has.limit = 3 }})
	l = append(l, fault{"one more", 3, api.ErrFull, "has", func(l *laid) { l.has.items = append(l.has.items, item{spend(9, 9), 0}) }})
	return l
}

// wantAdd does an Add in a pool of its own, and holds it, and what waits behind it, against what is asked for.
func wantAdd(t *testing.T, what string, l laid, want api.Errno) {
	t.Helper()
	p := newPool(t, l.has.limit)
	for _, i := range l.has.items {
		add(t, p, i.x, i.fee)
	}
	gone, err := p.Add(l.x, l.fee)
	wantErr(t, what, err, want)
	after, with, no := l.has.add(l.x, l.fee)
	if no != want {
		t.Errorf("%s: by its rule: %v, want %v", what, no, want)
	}
	wantIDs(t, what, gone, with...)
	after.check(t, what, p, l.x)
}

// TestAddAlone: PO1, each error of Add, alone; all waits then as it did.
func TestAddAlone(t *testing.T) {
	wantAdd(t, "no fault", newLaid(), 0)
	for _, f := range faults() {
		l := newLaid()
		f.do(&l)
		wantAdd(t, f.what, l, f.want)
	}
}

// TestAddOrder: PO1, of two errors of Add the one that the rule names first; one with its ID, which waits, spends what it spends, too.
func TestAddOrder(t *testing.T) {
	for _, f := range faults() {
		for _, g := range faults() {
			if f.rank >= g.rank || f.field == g.field {
				continue
			}
			l := newLaid()
			g.do(&l)
			f.do(&l)
			wantAdd(t, f.what+", "+g.what, l, f.want)
		}
	}
}

// TestAddAll: PO1, all errors of Add together, and one after the other mended.
func TestAddAll(t *testing.T) {
	l := newLaid()
	l.has.limit, l.fee, l.x = 3, -1, copied(l.has.items[1].x)
	for i, step := range []struct {
		want api.Errno
		mend func()
	}{
		{api.ErrArg, func() { l.fee = api.MaxAmount + 1 }},
		{api.ErrArg, func() { l.fee = api.MaxAmount }},
		{api.ErrTwice, func() { l.fee = 20 }},
		{api.ErrTwice, func() { l.x.Lock = 77 }},
		{api.ErrFee, func() { l.x.Ins[0].Point = point(5) }},
		{api.ErrFull, func() { l.has.limit = 4 }},
		{0, func() { l.has.limit, l.x.Ins[0].Point = 3, point(4) }},
		{0, func() {}},
	} {
		wantAdd(t, fmt.Sprint("step ", i), l, step.want)
		step.mend()
	}
}

// TestAddOdd: PO1 and rule 1, transactions that can't be in a block may wait, as no rule of the pool asks for it: without inputs, with one point twice, with numbers out of their bounds, with many inputs.
func TestAddOdd(t *testing.T) {
	wild := tx.Tx{Lock: math.MinInt, Ins: []tx.In{
		{Point: tx.Point{N: math.MinInt}, Branch: -1, Secret: make([]byte, 100)},
		{Point: tx.Point{N: math.MaxInt}, Branch: math.MaxInt},
	}, Outs: []tx.Out{{Amount: math.MinInt}, {Amount: math.MaxInt, Cond: cond.Cond{Branches: []cond.Branch{{Keys: []int{-5}, After: -1, Older: -1}, {}}}}}}
	var many []int
	for n := range 300 {
		many = append(many, 1000+n%200)
	}
	p, l := newPool(t, 9), plain{limit: 9}
	for i, x := range []tx.Tx{{}, spend(1), spend(2), wild, spend(3, 1, 1), spend(4, many...), {Ins: []tx.In{{}}}, {Outs: []tx.Out{{}}}} {
		wantIDs(t, fmt.Sprint("one that can't be: ", i), add(t, p, x, i%3))
		l, _, _ = l.add(x, i%3)
		_, err := p.Add(x, 100)
		wantErr(t, fmt.Sprint("one that can't be, again: ", i), err, api.ErrTwice)
		l.check(t, fmt.Sprint("one that can't be: ", i), p)
	}
	wantIDs(t, "in the place of many inputs", add(t, p, spend(50, 1100), 3), spend(4, many...))
	l, _, _ = l.add(spend(50, 1100), 3)
	wantIDs(t, "another of these points", add(t, p, spend(51, 1101), 0))
	l, _, _ = l.add(spend(51, 1101), 0)
	wantIDs(t, "in the place of one point twice", add(t, p, spend(52, 1), 2), spend(3, 1, 1))
	l, _, _ = l.add(spend(52, 1), 2)
	wantErr(t, "Drop", p.Drop(tx.ID(wild)), 0)
	l = l.without(tx.ID(wild))
	l.check(t, "at last", p, wild, spend(4, many...))
	l.takeAll(t, "at last", p)
}

// shuffles calls do with all orders of a list.
func shuffles(l []int, do func(l []int)) {
	if len(l) == 0 {
		do(nil)
	}
	for i := range l {
		rest := slices.Concat(l[:i], l[i+1:])
		shuffles(rest, func(m []int) { do(append([]int{l[i]}, m...)) })
	}
}

// TestOrder: PO1 and PO2, by the fee, the greatest first, and of the same fee the one that was laid in first: for all orders in which fees come.
func TestOrder(t *testing.T) {
	for _, fees := range [][]int{{0}, {0, 0}, {1, 2}, {3, 3, 3, 3}, {1, 2, 3, 4, 5}, {0, 7, 7, 7, api.MaxAmount}, {1, 1, 2, 2, 3, 3}} {
		shuffles(fees, func(fees []int) {
			p, l := newPool(t, len(fees)), plain{limit: len(fees)}
			for i, fee := range fees {
				x := spend(i, i)
				add(t, p, x, fee)
				l.items = append(l.items, item{x, fee})
			}
			l.check(t, fmt.Sprint("fees ", fees), p)
			l.takeAll(t, fmt.Sprint("fees ", fees), p)
		})
	}
}

// TestOrderOfTurns: PO1, what comes later is behind what came earlier, of the same fee, however many came, and went, between.
func TestOrderOfTurns(t *testing.T) {
	p, l := newPool(t, 20), plain{limit: 20}
	for n := range 500 {
		x := spend(n, n)
		add(t, p, x, n%2)
		l, _, _ = l.add(x, n%2)
		if n%3 != 0 || len(l.items) == 20 {
			at := n * 7 % len(l.items)
			id := tx.ID(l.items[at].x)
			wantErr(t, "Drop", p.Drop(id), 0)
			l = l.without(id)
		}
		if n%50 == 49 {
			l.check(t, fmt.Sprint("step ", n), p)
		}
	}
	l.takeAll(t, "at last", p)
}

// TestRefusedHasNoTurn: PO1, what was refused ahead of being laid in was not laid in then.
func TestRefusedHasNoTurn(t *testing.T) {
	p := newPool(t, 2)
	add(t, p, spend(1, 1), 5)
	_, err := p.Add(spend(2, 1, 2), 5)
	wantErr(t, "refused", err, api.ErrFee)
	add(t, p, spend(3, 3), 5)
	wantErr(t, "Drop", p.Drop(tx.ID(spend(1, 1))), 0)
	add(t, p, spend(2, 1, 2), 5)
	plain{2, []item{{spend(3, 3), 5}, {spend(2, 1, 2), 5}}}.check(t, "let by at last", p, spend(1, 1))
}

// TestTake: PO2 and PO3, of none and of all; what is laid in between goes where it belongs.
func TestTake(t *testing.T) {
	p, l := some(t, 20)
	l.takeAll(t, "some", p)
	l.takeAll(t, "the same again", newPoolOf(t, l))
	plain{limit: 20}.takeAll(t, "none", newPool(t, 20))
	p, l = some(t, 20)
	for n := range 40 {
		first := l.order()[0]
		x, fee, err := p.Take()
		wantErr(t, "Take", err, 0)
		if !same(x, first.x) || fee != first.fee {
			t.Errorf("step %d: %v for %d, want %v for %d", n, x, fee, first.x, first.fee)
		}
		l = l.without(tx.ID(first.x))
		y := spend(200+n, 700+n)
		add(t, p, y, n*n%35)
		l, _, _ = l.add(y, n*n%35)
		l.check(t, fmt.Sprint("step ", n), p, x)
	}
	l.takeAll(t, "at last", p)
}

// newPoolOf is a pool of which all of a list were laid in.
func newPoolOf(t *testing.T, l plain) *pool.Pool {
	t.Helper()
	p := newPool(t, l.limit)
	for _, i := range l.items {
		add(t, p, i.x, i.fee)
	}
	return p
}

// TestTakeFreesPoints: PO2, what was taken waits no more: what it spent may be spent by another one, for less.
func TestTakeFreesPoints(t *testing.T) {
	p := newPool(t, 2)
	add(t, p, spend(1, 1, 2), 9)
	if x, fee, err := p.Take(); err != nil || fee != 9 || !same(x, spend(1, 1, 2)) {
		t.Errorf("Take: %v, %d, %v", x, fee, err)
	}
	wantIDs(t, "for less", add(t, p, spend(2, 2), 0))
	wantIDs(t, "for less, too", add(t, p, spend(3, 1), 0))
	plain{2, []item{{spend(2, 2), 0}, {spend(3, 1), 0}}}.check(t, "both", p, spend(1, 1, 2))
}

// TestDrop: PO2, each of those that wait can be dropped, and then not again; what does not wait can't.
func TestDrop(t *testing.T) {
	_, all := some(t, 20)
	for n, gone := range all.items {
		p, l := some(t, 20)
		id := tx.ID(gone.x)
		wantErr(t, fmt.Sprint("Drop of ", n), p.Drop(id), 0)
		l = l.without(id)
		l.check(t, fmt.Sprint("without ", n), p, gone.x)
		wantErr(t, fmt.Sprint("Drop of ", n, ", again"), p.Drop(id), api.ErrNone)
		for i := range id {
			near := id
			near[i]++
			wantErr(t, "Drop of one near it", p.Drop(near), api.ErrNone)
		}
		wantErr(t, "Drop of noughts", p.Drop(api.Hash{}), api.ErrNone)
		wantErr(t, "Drop of another one", p.Drop(tx.ID(spend(1, 20))), api.ErrNone)
		l.check(t, fmt.Sprint("without ", n, ", still"), p, gone.x)
		wantIDs(t, "for less", add(t, p, spend(60, 10*n, 10*n+2), 0))
		l, _, _ = l.add(spend(60, 10*n, 10*n+2), 0)
		l.takeAll(t, fmt.Sprint("without ", n), p)
	}
	wantErr(t, "Drop of none", newPool(t, 1).Drop(api.Hash{}), api.ErrNone)
}

// TestDropAll: PO2, all are dropped one behind the other, in orders of all kinds; the others stay in theirs.
func TestDropAll(t *testing.T) {
	for _, step := range []int{1, 3, 5, 9, 11, 13} {
		p, l := some(t, 14)
		all := l.items
		for n := range all {
			id := tx.ID(all[n*step%len(all)].x)
			wantErr(t, "Drop", p.Drop(id), 0)
			l = l.without(id)
			l.check(t, fmt.Sprint("step ", step, ", ", n+1, " dropped"), p, all[n*step%len(all)].x)
		}
		l.takeAll(t, "all dropped", p)
	}
}

// TestHas: PO2, by the whole ID, which is the same whatever the secrets are.
func TestHas(t *testing.T) {
	p, l := some(t, 20)
	for _, i := range l.items {
		x := copied(i.x)
		x.Ins[0].Secret = nil
		if !p.Has(tx.ID(x)) {
			t.Errorf("Has of %v: false", x)
		}
		id := tx.ID(x)
		for at := range id {
			near := id
			near[at] ^= 1
			if p.Has(near) {
				t.Errorf("Has of one unlike at %d: true", at)
			}
		}
	}
	if p.Has(api.Hash{}) || newPool(t, 1).Has(api.Hash{}) {
		t.Error("Has of noughts: true")
	}
}

// TestClashes: PO2, those that spend what a transaction spends, itself, where it waits, and each once; points are the same by their sum and their number alone.
func TestClashes(t *testing.T) {
	p, l := some(t, 20)
	at := func(n int) tx.Tx { return l.items[n].x }
	for _, c := range []struct {
		what string
		x    tx.Tx
		want []tx.Tx
	}{
		{"no inputs", tx.Tx{}, nil},
		{"points that nobody spends", spend(1, 500, 501), nil},
		{"itself", at(3), []tx.Tx{at(3)}},
		{"one", spend(1, 32), []tx.Tx{at(3)}},
		{"one, three of its points", spend(1, 32, 30, 31), []tx.Tx{at(3)}},
		{"one point twice", spend(1, 32, 32), []tx.Tx{at(3)}},
		{"two, the second one pays more", spend(1, 10, 110), []tx.Tx{at(11), at(1)}},
		{"three of one fee", spend(1, 102, 51, 20), []tx.Tx{at(2), at(5), at(10)}},
		{"itself, and others", tx.Tx{Lock: at(3).Lock, Ins: slices.Concat(at(3).Ins, at(2).Ins, at(0).Ins)}, []tx.Tx{at(2), at(0), at(3)}},
	} {
		wantIDs(t, c.what, p.Clashes(c.x), c.want...)
		other := copied(c.x)
		for i := range other.Ins {
			other.Ins[i].Branch, other.Ins[i].Secret = 5, nil
		}
		wantIDs(t, c.what+", by other branches", p.Clashes(other), c.want...)
	}
	for _, in := range at(3).Ins {
		for i := range in.Point.Tx {
			near := in
			near.Point.Tx[i] ^= 128
			wantIDs(t, "a sum near one", p.Clashes(tx.Tx{Ins: []tx.In{near}}))
		}
		for _, n := range []int{1 << 20, -1, math.MinInt} {
			near := in
			near.Point.N += n
			wantIDs(t, "a number near one", p.Clashes(tx.Tx{Ins: []tx.In{near}}))
		}
	}
	l.check(t, "behind them", p)
}

// TestNil: PO2, a nil pool answers ErrArg, and nothing.
func TestNil(t *testing.T) {
	var p *pool.Pool
	for _, fee := range []int{-1, 0, 5, api.MaxAmount, api.MaxAmount + 1} {
		for _, x := range []tx.Tx{{}, spend(1, 1)} {
			gone, err := p.Add(x, fee)
			wantErr(t, "Add", err, api.ErrArg)
			wantIDs(t, "Add", gone)
		}
	}
	x, fee, err := p.Take()
	wantErr(t, "Take", err, api.ErrArg)
	if !reflect.DeepEqual(x, tx.Tx{}) || fee != 0 {
		t.Errorf("Take: %v, %d", x, fee)
	}
	wantErr(t, "Drop", p.Drop(api.Hash{}), api.ErrArg)
	wantErr(t, "Drop", p.Drop(tx.ID(spend(1, 1))), api.ErrArg)
	plain{}.check(t, "nil", p, tx.Tx{}, spend(1, 1))
}

// dice are numbers without an order, the same ones each time.
type dice uint64

// next is a number from 0 to n - 1.
func (d *dice) next(n int) int {
	*d = *d*6364136223846793005 + 1442695040888963407
	return int(*d >> 33 % dice(n))
}

// TestNoTwo: PO3, no two that wait spend the same output, and what is taken pays less and less, whatever was laid in, taken and dropped.
func TestNoTwo(t *testing.T) {
	for seed := range 30 {
		d, limit := dice(seed), 1+seed
		p, l := newPool(t, limit), plain{limit: limit}
		counts := map[api.Errno]int{}
		var before []tx.Tx
		for n := range 300 {
			what := fmt.Sprint("seed ", seed, ", step ", n)
			switch d.next(8) {
			case 0:
				x, _, err := p.Take()
				if err == nil {
					l = l.without(tx.ID(x))
				} else if len(l.items) > 0 {
					t.Errorf("%s: Take: %v", what, err)
				}
			case 1:
				if len(before) > 0 {
					id := tx.ID(before[d.next(len(before))])
					want := api.ErrNone
					if l.find(id) >= 0 {
						want = 0
					}
					wantErr(t, what+": Drop", p.Drop(id), want)
					l = l.without(id)
				}
			default:
				x := spend(d.next(3))
				for range d.next(4) {
					x.Ins = append(x.Ins, tx.In{Point: point(d.next(3 * limit))})
				}
				fee := d.next(20)*d.next(4) - 1
				after, with, no := l.add(x, fee)
				gone, err := p.Add(x, fee)
				wantErr(t, what+": Add", err, no)
				wantIDs(t, what+": gone", gone, with...)
				counts[no]++
				l, before = after, append(before, x)
			}
			if n%10 == 0 {
				l.check(t, what, p, before[max(0, len(before)-20):]...)
			}
		}
		if counts[0] < 20 || counts[api.ErrArg] == 0 || counts[api.ErrFee] == 0 {
			t.Errorf("seed %d: too much alike: %v", seed, counts)
		}
		l.takeAll(t, fmt.Sprint("seed ", seed), p)
	}
}

// fill overwrites a transaction, its lists, and their spare room.
func fill(x *tx.Tx) {
	for i := range x.Ins[:cap(x.Ins)] {
		in := &x.Ins[:cap(x.Ins)][i]
		for j := range in.Secret[:cap(in.Secret)] {
			in.Secret[:cap(in.Secret)][j] = 77
		}
		in.Point, in.Branch, in.Secret = point(77), 7, []byte("77")
	}
	for i := range x.Outs[:cap(x.Outs)] {
		o := &x.Outs[:cap(x.Outs)][i]
		for j := range o.Cond.Branches[:cap(o.Cond.Branches)] {
			b := &o.Cond.Branches[:cap(o.Cond.Branches)][j]
			for k := range b.Keys[:cap(b.Keys)] {
				b.Keys[:cap(b.Keys)][k] = 77
			}
			*b = cond.Branch{Keys: []int{77}, Lock: api.Hash{3: 77}, After: 77, Older: 77}
		}
		*o = tx.Out{Amount: 77, Cond: cond.All(7)}
	}
	x.Lock = 77
}

// roomy is a transaction whose lists have spare room, in which something stands.
func roomy(mark int, points ...int) tx.Tx {
	x := spend(mark, points...)
	x.Ins = append(x.Ins, tx.In{Point: point(900), Secret: []byte("spare")})[:len(points)]
	for i := range x.Ins {
		x.Ins[i].Secret = append(x.Ins[i].Secret, 1, 2, 3)[:2]
	}
	keys := func(n int) []int { return append(make([]int, 0, 8), n, n+5)[:1] }
	x.Outs[0].Cond.Branches = append(make([]cond.Branch, 0, 4), cond.Branch{Keys: keys(1), Older: 4}, cond.Branch{Keys: keys(2)}, cond.Branch{Keys: keys(3)})[:2]
	x.Outs = append(x.Outs, tx.Out{Amount: 44, Cond: cond.All(4)}, tx.Out{Amount: 55, Cond: cond.All(5)})[:2]
	return x
}

// TestMemoryIn: rule 3, a transaction that is handed in is not changed and not kept, spare room neither.
func TestMemoryIn(t *testing.T) {
	p, l := newPool(t, 5), plain{limit: 5}
	for n := range 5 {
		x := roomy(n, 2*n, 2*n+1)
		add(t, p, x, 10*n)
		l, _, _ = l.add(x, 10*n)
		_, err := p.Add(x, 10*n)
		wantErr(t, "again", err, api.ErrTwice)
		p.Clashes(x)
		if !reflect.DeepEqual(x, roomy(n, 2*n, 2*n+1)) || x.Ins[:3][2].Point != point(900) || x.Outs[:3][2].Amount != 55 {
			t.Errorf("what was handed in is changed: %v", x)
		}
		fill(&x)
		l.check(t, "what was laid in overwritten", p, x)
	}
	y := roomy(50, 0, 2)
	wantIDs(t, "gone", add(t, p, y, 11), roomy(1, 2, 3), roomy(0, 0, 1))
	l, _, _ = l.add(y, 11)
	fill(&y)
	l.check(t, "what took others' place overwritten", p, y)
	l.takeAll(t, "what was laid in overwritten", p)
}

// TestMemoryShared: rule 3, transactions that are handed in with lists in common have none in common in the pool, nor in one answer.
func TestMemoryShared(t *testing.T) {
	secrets, keys := []byte("abcdef"), []int{1, 2, 3}
	branches := []cond.Branch{{Keys: keys[:1]}, {Keys: keys[:2]}, {Keys: keys}}
	outs := []tx.Out{{Amount: 20, Cond: cond.Cond{Branches: branches[:2]}}, {Amount: 30, Cond: cond.Cond{Branches: branches}}}
	ins := []tx.In{{Point: point(1), Secret: secrets[:2]}, {Point: point(2), Secret: secrets}, {Point: point(3), Secret: secrets}}
	first, second := tx.Tx{Ins: ins[:2], Outs: outs[:1]}, tx.Tx{Ins: ins[2:], Outs: outs}
	l := plain{2, []item{{first, 5}, {second, 4}}}
	parts := func(what string, x tx.Tx) {
		t.Helper()
		was := copied(x)
		for i := range x.Ins {
			_ = append(x.Ins[i].Secret, 99)
			for j := range x.Ins[i].Secret {
				x.Ins[i].Secret[j]++
			}
		}
		for i := range x.Outs {
			_ = append(x.Outs[i].Cond.Branches, cond.Branch{After: 99})
			for j := range x.Outs[i].Cond.Branches {
				b := &x.Outs[i].Cond.Branches[j]
				_ = append(b.Keys, 99)
				b.After++
				for k := range b.Keys {
					b.Keys[k]++
				}
			}
		}
		_, _ = append(x.Ins, tx.In{}), append(x.Outs, tx.Out{})
		for i := range was.Ins {
			for j := range was.Ins[i].Secret {
				was.Ins[i].Secret[j]++
			}
		}
		for i := range was.Outs {
			for j := range was.Outs[i].Cond.Branches {
				was.Outs[i].Cond.Branches[j].After++
				for k := range was.Outs[i].Cond.Branches[j].Keys {
					was.Outs[i].Cond.Branches[j].Keys[k]++
				}
			}
		}
		if !same(x, was) {
			t.Errorf("%s: two lists of one answer share: %v", what, x)
		}
	}
	p := newPoolOf(t, l)
	l = plain{2, []item{{copied(first), 5}, {copied(second), 4}}}
	l.check(t, "laid in", p)
	for range 2 {
		all := p.Order()
		for _, x := range all {
			parts("Order", x)
		}
		l.check(t, "what Order answered overwritten", p)
	}
	x, _, _ := p.Take()
	y, _, _ := p.Take()
	parts("Take", x)
	parts("Take of the second one", y)
	if !same(first, l.items[0].x) || !same(second, l.items[1].x) {
		t.Error("what was handed in is changed")
	}
}

// TestMemoryOut: rule 3, who overwrites an answer, or its spare room, changes nothing that waits, and no other answer.
func TestMemoryOut(t *testing.T) {
	p, l := some(t, 20)
	first, second := p.Order(), p.Order()
	for i := range first {
		fill(&first[i])
	}
	for i := range first[:cap(first)] {
		first[:cap(first)][i] = spend(99, 99)
	}
	for i, want := range l.order() {
		if !same(second[i], want.x) {
			t.Errorf("Order: an answer changed with another one: %v", second[i])
		}
	}
	l.check(t, "what Order answered overwritten", p)
	x, _, _ := p.Take()
	l = l.without(tx.ID(x))
	fill(&x)
	l.check(t, "what Take answered overwritten", p, x)
	wide := spend(1, 20, 51, 102)
	was := p.Clashes(wide)
	gone := p.Clashes(wide)
	for i := range gone[:cap(gone)] {
		gone[:cap(gone)][i] = api.Hash{9}
	}
	if !slices.Equal(p.Clashes(wide), was) {
		t.Error("Clashes: an answer changed with another one")
	}
	gone = add(t, p, wide, 1000)
	l, _, _ = l.add(wide, 1000)
	for i := range gone[:cap(gone)] {
		gone[:cap(gone)][i] = api.Hash{9}
	}
	l.check(t, "what Add answered overwritten", p)
	l.takeAll(t, "what Add answered overwritten", p)
}

// TestMemoryTaken: rule 3, what was taken stays as it is, whatever the pool goes on with.
func TestMemoryTaken(t *testing.T) {
	p, l := some(t, 14)
	var taken []tx.Tx
	want := l.order()
	for n := range want {
		x, _, err := p.Take()
		wantErr(t, "Take", err, 0)
		taken = append(taken, x)
		add(t, p, spend(300+n, 800+n), 0)
		p.Order()
	}
	for n := range want {
		if !same(taken[n], want[n].x) {
			t.Errorf("what was taken is changed: %v, want %v", taken[n], want[n].x)
		}
	}
}

// TestAskingChangesNothing: rule 4, what is asked leaves nothing, and the same answer comes again.
func TestAskingChangesNothing(t *testing.T) {
	p, l := some(t, 14)
	for range 3 {
		l.check(t, "asked again", p, spend(1, 20, 500))
	}
	q, _ := some(t, 14)
	if !reflect.DeepEqual(p.Order(), q.Order()) || p.Len() != q.Len() {
		t.Error("two pools in which the same was laid tell unlike things")
	}
	l.takeAll(t, "asked", p)
	l.takeAll(t, "not asked", q)
}

// TestMany: rule 1, calls end at once, where as many wait as can, with as many inputs as a block lets by.
func TestMany(t *testing.T) {
	p := newPool(t, api.MaxList)
	big := func(mark, n int) tx.Tx {
		x := spend(mark)
		for i := range api.MaxIO {
			x.Ins = append(x.Ins, tx.In{Point: tx.Point{Tx: api.Hash{byte(n), byte(n >> 8)}, N: i}})
		}
		return x
	}
	for n := range api.MaxList {
		add(t, p, big(1, n), n%100)
	}
	for n := range api.MaxList {
		wantIDs(t, "one of many", add(t, p, big(2, n), 100+n%100), big(1, n))
	}
	if len(p.Order()) != api.MaxList || p.Len() != api.MaxList {
		t.Errorf("%d wait, want %d", p.Len(), api.MaxList)
	}
	for n := range api.MaxList / 2 {
		wantErr(t, "Drop of one of many", p.Drop(tx.ID(big(2, n))), 0)
	}
	before := math.MaxInt
	for range api.MaxList / 2 {
		_, fee, err := p.Take()
		wantErr(t, "Take of one of many", err, 0)
		if fee > before {
			t.Fatalf("Take: %d behind %d", fee, before)
		}
		before = fee
	}
	plain{limit: api.MaxList}.check(t, "all of many", p, big(1, 1), big(2, 1))
}

// FuzzPool: PO1 to PO3, a pool in which is laid, taken and dropped, in any order, is the plain list. Four bytes are a step.
func FuzzPool(f *testing.F) {
	f.Add(byte(2), []byte{0, 1, 2, 5, 0, 3, 4, 9, 0, 5, 6, 9, 0, 1, 3, 15, 64, 0, 0, 0, 128, 1, 2, 0})
	f.Add(byte(5), []byte{1, 1, 1, 5, 2, 2, 2, 5, 3, 3, 3, 5, 4, 4, 4, 5, 5, 5, 5, 5, 6, 6, 6, 5, 7, 1, 2, 10, 7, 1, 2, 11, 192, 3, 3, 0, 0, 0, 0, 255})
	f.Fuzz(func(t *testing.T, limit byte, steps []byte) {
		most := 1 + int(limit%16)
		p, l := newPool(t, most), plain{limit: most}
		steps = steps[:min(len(steps), 400)]
		for ; len(steps) >= 4; steps = steps[4:] {
			s := steps[:4]
			x := spend(int(s[0]&7), int(s[1]%32), int(s[2]%32))
			x.Ins = x.Ins[:2-s[0]>>3&1]
			switch s[0] >> 6 {
			case 1:
				l = takeOne(t, p, l)
			case 2:
				want := api.ErrNone
				if l.find(tx.ID(x)) >= 0 {
					want = 0
				}
				wantErr(t, "Drop", p.Drop(tx.ID(x)), want)
				l = l.without(tx.ID(x))
			default:
				after, with, no := l.add(x, int(s[3])-1)
				gone, err := p.Add(x, int(s[3])-1)
				wantErr(t, "Add", err, no)
				wantIDs(t, "gone", gone, with...)
				l = after
			}
			l.check(t, "behind a step", p, x)
		}
		l.takeAll(t, "at last", p)
	})
}

// takeOne takes the first one out of a pool, and of the list.
func takeOne(t *testing.T, p *pool.Pool, l plain) plain {
	t.Helper()
	x, fee, err := p.Take()
	if len(l.items) == 0 {
		wantErr(t, "Take of none", err, api.ErrNone)
		return l
	}
	first := l.order()[0]
	wantErr(t, "Take", err, 0)
	if !same(x, first.x) || fee != first.fee {
		t.Errorf("Take: %v for %d, want %v for %d", x, fee, first.x, first.fee)
	}
	return l.without(tx.ID(first.x))
}
