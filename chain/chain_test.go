package chain_test

import (
	"errors"
	"fmt"
	"math"
	"reflect"
	"slices"
	"testing"

	"bayou/api"
	"bayou/chain"
	"bayou/cond"
	"bayou/ledger"
	"bayou/oath"
	"bayou/tx"
)

// most is how many transactions a block may have.
const most = 64

// number is an error's number; 0: there is none.
func number(err error) api.Errno {
	var n api.Errno
	if err != nil && !errors.As(err, &n) {
		panic(err)
	}
	return n
}

// wantErr holds an error against the number that is asked for; 0: none.
func wantErr(t *testing.T, what string, err error, want api.Errno) {
	t.Helper()
	var got api.Errno
	switch {
	case want == 0 && err != nil:
		t.Errorf("%s: %v, want no error", what, err)
	case want != 0 && (!errors.As(err, &got) || got != want):
		t.Errorf("%s: %v, want %v", what, err, want)
	}
}

// wantTx holds a transaction and an error against those that are asked for; without an error, secrets too.
func wantTx(t *testing.T, what string, got tx.Tx, err error, want tx.Tx, no api.Errno) {
	t.Helper()
	wantErr(t, what, err, no)
	if no != 0 && !reflect.DeepEqual(got, tx.Tx{}) || !same(got, want) {
		t.Errorf("%s: %v, want %v", what, got, want)
	}
}

// idsOf are the IDs of transactions.
func idsOf(l []tx.Tx) []api.Hash {
	var all []api.Hash
	for _, x := range l {
		all = append(all, tx.ID(x))
	}
	return all
}

// point is one of many points: sums unlike in the first byte alone, or in the last one alone, or points unlike in the number alone.
func point(n int) tx.Point {
	switch n % 3 {
	case 0:
		return tx.Point{Tx: api.Hash{0: byte(n), 5: byte(n >> 8)}}
	case 1:
		return tx.Point{Tx: api.Hash{31: byte(n), 6: byte(n >> 8)}, N: 2}
	}
	return tx.Point{Tx: api.Hash{15: 7, 16: byte(n >> 6)}, N: n % api.MaxIO}
}

// out is an amount under the keys of some, one condition for all of them.
func out(amount int, keys ...int) tx.Out { return tx.Out{Amount: amount, Cond: cond.All(keys...)} }

// under is an amount under branches.
func under(amount int, branches ...cond.Branch) tx.Out {
	return tx.Out{Amount: amount, Cond: cond.Cond{Branches: branches}}
}

// spend is a transaction that spends points by their first branches, and makes one output; each shows a secret, though nobody asks for it.
func spend(amount int, points ...tx.Point) tx.Tx {
	x := tx.Tx{Outs: []tx.Out{out(amount, 1, 2)}}
	for i, p := range points {
		x.Ins = append(x.Ins, tx.In{Point: p, Secret: []byte{byte(i), byte(p.N)}})
	}
	return x
}

// numbered are points by their numbers.
func numbered(ns ...int) []tx.Point {
	var l []tx.Point
	for _, n := range ns {
		l = append(l, point(n))
	}
	return l
}

// copied is a transaction that shares nothing.
func copied(x tx.Tx) tx.Tx {
	y := tx.Tx{Lock: x.Lock}
	for _, in := range x.Ins {
		y.Ins = append(y.Ins, tx.In{Point: in.Point, Branch: in.Branch, Secret: append([]byte(nil), in.Secret...)})
	}
	for _, o := range x.Outs {
		c := tx.Out{Amount: o.Amount}
		for _, b := range o.Cond.Branches {
			b.Keys = append([]int(nil), b.Keys...)
			c.Cond.Branches = append(c.Cond.Branches, b)
		}
		y.Outs = append(y.Outs, c)
	}
	return y
}

// same tells whether two transactions are the same, secrets too; nil and the empty list are.
func same(a, b tx.Tx) bool { return reflect.DeepEqual(copied(a), copied(b)) }

// everybody are all parties.
func everybody() []int {
	var l []int
	for who := range api.MaxParty {
		l = append(l, who)
	}
	return l
}

// item is a transaction that waits.
type item struct {
	x   tx.Tx
	fee int
}

// plain is a chain as lists: what a Chain is held against. Its ledger is another one, to which all is done that is done to the chain's own; those that wait stand in the order in which they came.
type plain struct {
	limit  int
	l      *ledger.Ledger
	b      *oath.Book
	had    int
	waits  []item
	blocks [][]tx.Tx
	fees   int
}

// inCommon tells whether two transactions spend the same output.
func inCommon(a, b tx.Tx) bool {
	for _, i := range a.Ins {
		for _, j := range b.Ins {
			if i.Point == j.Point {
				return true
			}
		}
	}
	return false
}

// submit is Submit by its rule.
func (p *plain) submit(x tx.Tx) api.Errno {
	fee, err := p.l.Check(x, len(p.blocks)+1, p.b)
	if err != nil {
		return number(err)
	}
	if p.waiting(tx.ID(x)) {
		return api.ErrTwice
	}
	var rest []item
	sum := -1
	for _, i := range p.waits {
		if inCommon(i.x, x) {
			sum = max(sum, 0) + i.fee
		} else {
			rest = append(rest, i)
		}
	}
	if fee <= sum {
		return api.ErrFee
	}
	if len(rest) >= p.limit {
		return api.ErrFull
	}
	p.waits = append(rest, item{copied(x), fee})
	return 0
}

// mine is Mine by its rule: the block.
func (p *plain) mine(most int) []tx.Tx {
	var block []tx.Tx
	for len(block) < most && len(p.waits) > 0 {
		best := 0
		for i := range p.waits {
			if p.waits[i].fee > p.waits[best].fee {
				best = i
			}
		}
		x := p.waits[best].x
		p.waits = slices.Concat(p.waits[:best], p.waits[best+1:])
		fee, err := p.l.Apply(x, len(p.blocks)+1, p.b)
		if err == nil {
			block = append(block, x)
			p.fees += fee
		}
	}
	p.blocks = append(p.blocks, block)
	var rest []item
	for _, i := range p.waits {
		there := 0
		for _, in := range i.x.Ins {
			if _, ok := p.l.Get(in.Point); ok {
				there++
			}
		}
		if there == len(i.x.Ins) {
			rest = append(rest, i)
		}
	}
	p.waits = rest
	return block
}

// waiting tells whether one with an ID waits.
func (p *plain) waiting(id api.Hash) bool {
	return slices.ContainsFunc(p.waits, func(i item) bool { return tx.ID(i.x) == id })
}

// last is the last transaction in blocks of which something holds, and its height; 0: there is none.
func (p *plain) last(holds func(x tx.Tx) bool) (tx.Tx, int) {
	for h := len(p.blocks); h > 0; h-- {
		for _, x := range slices.Backward(p.blocks[h-1]) {
			if holds(x) {
				return x, h
			}
		}
	}
	return tx.Tx{}, 0
}

// none is the error of what is at no height.
func none(height int) api.Errno {
	if height == 0 {
		return api.ErrNone
	}
	return 0
}

// checkOne holds what a chain tells of a transaction, and of the points that it spends and makes, against the lists.
func (p *plain) checkOne(t *testing.T, what string, c *chain.Chain, x tx.Tx) {
	t.Helper()
	id := tx.ID(x)
	want, when := p.last(func(y tx.Tx) bool { return tx.ID(y) == id })
	depth := 0
	if when > 0 {
		depth = len(p.blocks) - when + 1
	}
	if c.When(id) != when || c.Depth(id) != depth || c.Waits(id) != p.waiting(id) {
		t.Errorf("%s: When, Depth, Waits of %v: %d, %d, %v, want %d, %d, %v", what, x, c.When(id), c.Depth(id), c.Waits(id), when, depth, p.waiting(id))
	}
	got, err := c.Find(id)
	wantTx(t, what+": Find", got, err, want, none(when))
	points := []tx.Point{tx.At(x, 0), tx.At(x, 1)}
	for _, in := range x.Ins {
		points = append(points, in.Point, tx.Point{Tx: in.Point.Tx, N: in.Point.N + 1000})
	}
	for _, o := range points {
		want, when := p.last(func(y tx.Tx) bool { return tx.Spends(y, o) })
		got, err := c.Spender(o)
		wantTx(t, fmt.Sprint(what, ": Spender of ", o), got, err, want, none(when))
	}
}

// checkLedger holds a ledger against the one of the lists, and what it has against what it had, less what was paid.
func (p *plain) checkLedger(t *testing.T, what string, l *ledger.Ledger) {
	t.Helper()
	if !slices.Equal(l.Points(), p.l.Points()) || l.Total() != p.had-p.fees {
		t.Errorf("%s: the ledger has %d in %d outputs, want %d in %d", what, l.Total(), len(l.Points()), p.had-p.fees, len(p.l.Points()))
	}
	for _, o := range l.Points() {
		got, _ := l.Get(o)
		want, _ := p.l.Get(o)
		if !reflect.DeepEqual(got, want) {
			t.Errorf("%s: the ledger has %v, want %v", what, got, want)
		}
	}
}

// check holds all that a chain tells against the lists; of other transactions, too.
func (p *plain) check(t *testing.T, what string, c *chain.Chain, others ...tx.Tx) {
	t.Helper()
	if c.Height() != len(p.blocks) || c.Waiting() != len(p.waits) || c.Fees() != p.fees {
		t.Errorf("%s: Height, Waiting, Fees: %d, %d, %d, want %d, %d, %d", what, c.Height(), c.Waiting(), c.Fees(), len(p.blocks), len(p.waits), p.fees)
	}
	for n, want := range p.blocks {
		got, err := c.Block(n + 1)
		wantErr(t, fmt.Sprint(what, ": Block of ", n+1), err, 0)
		if !slices.EqualFunc(got, want, same) {
			t.Errorf("%s: Block of %d: %v, want %v", what, n+1, got, want)
		}
		others = append(others, want...)
	}
	for _, n := range []int{0, -1, math.MinInt, len(p.blocks) + 1, len(p.blocks) + 2, 1 << 32, math.MaxInt} {
		got, err := c.Block(n)
		wantErr(t, fmt.Sprint(what, ": Block of ", n), err, api.ErrNone)
		if got != nil {
			t.Errorf("%s: Block of %d: %v", what, n, got)
		}
	}
	for _, i := range p.waits {
		others = append(others, i.x)
	}
	for _, x := range others {
		p.checkOne(t, what, c, x)
	}
	p.checkLedger(t, what, c.Ledger())
}

// site is a chain, what it stands on, and the lists that it is held against.
type site struct {
	t *testing.T
	l *ledger.Ledger
	b *oath.Book
	c *chain.Chain
	p *plain
}

// newSite is a chain for so many that wait, on a ledger without outputs.
func newSite(t *testing.T, limit int) *site {
	t.Helper()
	l, b := ledger.New(), oath.New()
	return &site{t, l, b, newChain(t, limit, l, b), &plain{limit: limit, l: ledger.New(), b: b}}
}

// newChain is a chain, which must be.
func newChain(t *testing.T, limit int, l *ledger.Ledger, b *oath.Book) *chain.Chain {
	t.Helper()
	c, err := chain.New(limit, l, b)
	if err != nil || c == nil {
		t.Fatalf("New of %d: %v, %v", limit, c, err)
	}
	return c
}

// mint makes an output from outside, which must be.
func (s *site) mint(p tx.Point, o tx.Out, height int) {
	s.t.Helper()
	err := errors.Join(s.l.Mint(p, o, height), s.p.l.Mint(p, o, height))
	if err != nil {
		s.t.Fatalf("Mint of %v: %v", p, err)
	}
	s.p.had += o.Amount
}

// coins makes outputs of 100 from outside, at points of numbers up to so many, which 1 can spend.
func (s *site) coins(n int) *site {
	s.t.Helper()
	for i := range n {
		s.mint(point(i), out(100, 1), 0)
	}
	return s
}

// apply does a transaction from outside, that 1 signs, and that must be let by.
func (s *site) apply(x tx.Tx, height int) {
	s.t.Helper()
	s.sign(x, 1)
	fee, err := s.l.Apply(x, height, s.b)
	_, other := s.p.l.Apply(x, height, s.b)
	if err != nil || other != nil {
		s.t.Fatalf("Apply of %v: %v, %v", x, err, other)
	}
	s.p.had -= fee
}

// sign has some sign a transaction, who must be parties.
func (s *site) sign(x tx.Tx, who ...int) {
	s.t.Helper()
	for _, w := range who {
		if err := s.b.Sign(w, tx.ID(x)); err != nil {
			s.t.Fatal(err)
		}
	}
}

// submit submits a transaction, and holds the answer against what is asked for, and against the rule.
func (s *site) submit(what string, x tx.Tx, want api.Errno) {
	s.t.Helper()
	if no := s.p.submit(x); no != want {
		s.t.Errorf("%s: Submit by its rule: %v, want %v", what, no, want)
	}
	wantErr(s.t, what+": Submit", s.c.Submit(x), want)
}

// ask has 1 sign a transaction, and submits it; it must be let by.
func (s *site) ask(x tx.Tx) tx.Tx {
	s.t.Helper()
	s.sign(x, 1)
	s.submit(fmt.Sprint(x), x, 0)
	return x
}

// mine makes a block, and holds it against what is asked for, and against the rule.
func (s *site) mine(what string, most int, want ...tx.Tx) {
	s.t.Helper()
	if block := s.p.mine(most); !slices.EqualFunc(block, want, same) {
		s.t.Errorf("%s: Mine by its rule: %v, want %v", what, block, want)
	}
	ids, err := s.c.Mine(most)
	wantErr(s.t, what+": Mine", err, 0)
	if !slices.Equal(ids, idsOf(want)) {
		s.t.Errorf("%s: Mine: %x, want those of %v", what, ids, want)
	}
}

// check holds all that the chain tells against the lists, and that it goes on with the ledger that it was given.
func (s *site) check(what string, others ...tx.Tx) {
	s.t.Helper()
	s.p.check(s.t, what, s.c, others...)
	if s.c.Ledger() != s.l {
		s.t.Errorf("%s: Ledger: another one", what)
	}
}

// TestExample: CH1 and CH2, the example of the chapter.
func TestExample(t *testing.T) {
	s := newSite(t, 4).coins(1)
	x := s.ask(spend(95, point(0)))
	s.check("submitted")
	s.mine("mined", 1, x)
	if s.c.Height() != 1 || s.c.Depth(tx.ID(x)) != 1 || s.c.When(tx.ID(x)) != 1 || s.c.Fees() != 5 {
		t.Errorf("Height, Depth, When, Fees: %d, %d, %d, %d", s.c.Height(), s.c.Depth(tx.ID(x)), s.c.When(tx.ID(x)), s.c.Fees())
	}
	s.check("mined")
}

// TestNew: CH1, limits at and beyond their bounds, a nil ledger, a nil book, and both; a new chain has no block, whatever its ledger and its book have.
func TestNew(t *testing.T) {
	for _, limit := range []int{1, 2, 3, 64, api.MaxList - 1, api.MaxList} {
		s := newSite(t, limit)
		s.check("new", tx.Tx{}, spend(50, point(1)))
		s.coins(3)
		c := newChain(t, limit, s.l, s.b)
		s.p.check(t, "on what is there", c, spend(50, point(1)))
	}
	l, b := ledger.New(), oath.New()
	wants := func(what string, limit int, l *ledger.Ledger, b *oath.Book) {
		t.Helper()
		c, err := chain.New(limit, l, b)
		wantErr(t, fmt.Sprint(what, ", limit ", limit), err, api.ErrArg)
		if c != nil {
			t.Errorf("%s, limit %d: a chain", what, limit)
		}
	}
	for _, limit := range []int{0, -1, -2, math.MinInt, api.MaxList + 1, api.MaxList + 2, 1<<32 + 1, math.MaxInt} {
		wants("all there", limit, l, b)
	}
	for _, limit := range []int{1, 4, api.MaxList, 0, -1, api.MaxList + 1} {
		wants("no ledger", limit, nil, b)
		wants("no book", limit, l, nil)
		wants("neither", limit, nil, nil)
	}
}

// TestNewIsItsOwn: CH1, each chain has blocks, and some that wait, of its own, on one ledger, too.
func TestNewIsItsOwn(t *testing.T) {
	s := newSite(t, 4).coins(4)
	other := newChain(t, 4, s.l, s.b)
	x, y := s.ask(spend(90, point(0))), s.ask(spend(80, point(1)))
	s.mine("one", 1, y)
	if other.Height() != 0 || other.Waiting() != 0 || other.Fees() != 0 || other.Waits(tx.ID(x)) || other.When(tx.ID(y)) != 0 || other.Ledger() != s.l {
		t.Error("another chain tells of blocks that it has not")
	}
	_, err := other.Find(tx.ID(y))
	wantErr(t, "Find of another chain's", err, api.ErrNone)
	wantErr(t, "what the other one has in a block", other.Submit(y), api.ErrSpent)
	wantErr(t, "what waits at the other one", other.Submit(x), 0)
	ids, err := other.Mine(5)
	wantErr(t, "the other one's block", err, 0)
	if !slices.Equal(ids, idsOf([]tx.Tx{x})) || other.Fees() != 10 || s.c.Fees() != 20 {
		t.Errorf("the other one's block: %x, fees %d and %d", ids, other.Fees(), s.c.Fees())
	}
	if !s.c.Waits(tx.ID(x)) {
		t.Error("it waits no more ahead of the next block")
	}
	ids, err = s.c.Mine(5)
	wantErr(t, "what the other one was first with", err, 0)
	if len(ids) != 0 || s.c.Waits(tx.ID(x)) || s.c.When(tx.ID(x)) != 0 || s.c.Fees() != 20 || s.l.Total() != 370 {
		t.Errorf("what the other one was first with: %x, fees %d, and the ledger has %d", ids, s.c.Fees(), s.l.Total())
	}
}

// TestLimit: CH1, as many as the limit wait, whatever it is, and not one more.
func TestLimit(t *testing.T) {
	for _, limit := range []int{1, 2, 7, 64, 200} {
		s := newSite(t, limit).coins(limit + 2)
		for n := range limit {
			s.ask(spend(90-n%5, point(n)))
		}
		x := spend(10, point(limit))
		s.sign(x, 1)
		s.submit(fmt.Sprint("one more than ", limit), x, api.ErrFull)
		s.submit(fmt.Sprint("one more than ", limit, ", still"), x, api.ErrFull)
		s.check("full", x)
	}
}

// TestGoesOn: CH1, the chain goes on with the ledger and the book as they are, also when they change from outside.
func TestGoesOn(t *testing.T) {
	s := newSite(t, 4)
	x := spend(60, point(1))
	s.submit("no output", x, api.ErrSpent)
	s.mint(point(1), out(100, 3), 0)
	s.check("minted", x)
	s.submit("no signature", x, api.ErrSign)
	s.sign(x, 3)
	s.submit("signed", x, 0)
	s.check("submitted", x)
	s.mine("mined", 5, x)
	s.check("mined", x)
	y := spend(20, tx.At(x, 0))
	s.submit("one of two signatures", y, api.ErrSign)
	s.sign(y, 2)
	s.submit("one of two signatures, still", y, api.ErrSign)
	s.sign(y, 1)
	s.submit("both", y, 0)
	z := spend(35, tx.At(x, 0))
	s.sign(z, 2)
	s.apply(z, 9)
	s.check("spent from outside", y, z)
	s.submit("what waits, and is spent from outside", y, api.ErrSpent)
	s.mine("behind it", 5)
	s.check("behind it", y, z)
}

// entry is an output that is there ahead of a Submit.
type entry struct {
	p      tx.Point
	out    tx.Out
	height int
}

// asked is what Submit is asked of: a chain of so many blocks, outputs that are there, transactions that wait, one that is submitted, who signed it, and whether its own output is there already.
type asked struct {
	limit  int
	blocks int
	has    []entry
	waits  []tx.Tx
	x      tx.Tx
	who    []int
	taken  bool
}

// secret is what an input shows.
func secret(i int) []byte { return []byte{byte(i), 0, 255} }

// newAsked is one that Submit lets by, with a fee of 7: two inputs, each by a second branch that asks for two keys, a secret, a height, and an age, all of which are just met by the next block; others wait, and there is just room for it.
func newAsked() asked {
	a := asked{limit: 3, blocks: 5}
	for i := range 2 {
		asks := cond.Branch{Keys: []int{i, 10 + i}, Lock: cond.Lock(secret(i)), After: 6, Older: 3 + i}
		a.has = append(a.has, entry{point(i), under(100, cond.Branch{Keys: []int{9}}, asks), 3 - i})
		a.x.Ins = append(a.x.Ins, tx.In{Point: point(i), Branch: 1, Secret: secret(i)})
		a.who = append(a.who, i, 10+i)
	}
	for i := 2; i < 6; i++ {
		a.has = append(a.has, entry{point(i), out(100, i), 0})
	}
	a.waits = []tx.Tx{spend(90, point(2)), spend(80, point(3))}
	a.x.Outs = []tx.Out{out(180, 1), out(13, 2)}
	a.x.Lock = 6
	return a
}

// want lays it all, and submits: the answer, and all that the chain tells behind it, is what is asked for.
func (a asked) want(t *testing.T, what string, want api.Errno) {
	t.Helper()
	s := newSite(t, a.limit)
	for _, e := range a.has {
		s.mint(e.p, e.out, e.height)
	}
	for range a.blocks {
		s.mine(what, 0)
	}
	for _, x := range a.waits {
		s.sign(x, everybody()...)
		s.submit(what+": ahead", x, 0)
	}
	if a.taken {
		s.mint(tx.At(a.x, 1), out(33, 4), 2)
	}
	s.sign(a.x, a.who...)
	s.submit(what, a.x, want)
	s.check(what, a.x)
}

// fault is something by which Submit answers an error, where in the rule it stands, and what it changes.
type fault struct {
	what  string
	rank  int
	want  api.Errno
	field string
	do    func(a *asked)
}

// Ranks of what Submit's rule names, in its order.
const (
	rankTx = iota
	rankLock
	rankInput
	rankFunds = rankInput + 10
	rankTaken = rankFunds + 1
	rankPool  = rankTaken + 1
)

// faults are all kinds of what Submit does not let by.
func faults() []fault {
	var l []fault
	add := func(what string, rank int, want api.Errno, field string, do func(a *asked)) {
		l = append(l, fault{what, rank, want, field, do})
	}
	for _, n := range []int{-1, math.MinInt, api.MaxHeight + 1, math.MaxInt} {
		add(fmt.Sprint("Lock ", n), rankTx, api.ErrRange, "lock", func(a *asked) { a.x.Lock = n })
	}
	add("no input", rankTx, api.ErrRange, "inputs", func(a *asked) { a.x.Ins = nil })
	add("no output", rankTx, api.ErrRange, "outputs", func(a *asked) { a.x.Outs = nil })
	add("N 64", rankTx, api.ErrRange, "inputs", func(a *asked) { a.x.Ins[1].Point.N = api.MaxIO })
	add("a secret of 65", rankTx, api.ErrRange, "inputs", func(a *asked) { a.x.Ins[0].Secret = make([]byte, 65) })
	add("a point twice", rankTx, api.ErrTwice, "inputs", func(a *asked) { a.x.Ins[1] = a.x.Ins[0] })
	add("an output of 9", rankTx, api.ErrDust, "outputs", func(a *asked) { a.x.Outs[1].Amount = 9 })
	add("an output of too much", rankTx, api.ErrOver, "outputs", func(a *asked) { a.x.Outs[1].Amount = api.MaxAmount + 1 })
	add("an output without a condition", rankTx, api.ErrArg, "outputs", func(a *asked) { a.x.Outs[1].Cond = cond.Cond{} })
	for _, n := range []int{7, 8, api.MaxHeight} {
		add(fmt.Sprint("Lock ", n), rankLock, api.ErrEarly, "lock", func(a *asked) { a.x.Lock = n })
	}
	add("one block less", rankLock, api.ErrEarly, "blocks", func(a *asked) { a.blocks = 4 })
	for i := range 2 {
		input := func(what string, rank int, want api.Errno, field string, do func(e *entry, in *tx.In)) {
			field = fmt.Sprint(field, " of ", i)
			add(fmt.Sprint(what, " of input ", i), rankInput+5*i+rank, want, field, func(a *asked) {
				if len(a.x.Ins) > i {
					do(&a.has[i], &a.x.Ins[i])
				}
			})
		}
		input("no output", 0, api.ErrSpent, "point", func(e *entry, in *tx.In) { e.p.Tx[9]++ })
		input("an output of another number", 0, api.ErrSpent, "point", func(e *entry, in *tx.In) { e.p.N++ })
		input("a branch that is not there", 1, api.ErrRange, "branch", func(e *entry, in *tx.In) { in.Branch = 2 })
		input("a branch of somebody else", 2, api.ErrSign, "branch", func(e *entry, in *tx.In) { in.Branch = 0 })
		input("one key more", 2, api.ErrSign, "keys", func(e *entry, in *tx.In) { e.out.Cond.Branches[1].Keys = []int{i, 10 + i, 15} })
		input("another secret", 3, api.ErrHash, "secret", func(e *entry, in *tx.In) { in.Secret = secret(7) })
		input("a height not reached", 4, api.ErrEarly, "after", func(e *entry, in *tx.In) { e.out.Cond.Branches[1].After = 7 })
		input("an age not reached", 4, api.ErrEarly, "older", func(e *entry, in *tx.In) { e.out.Cond.Branches[1].Older++ })
		input("an output one younger", 4, api.ErrEarly, "made", func(e *entry, in *tx.In) { e.height++ })
	}
	add("nobody signed", rankInput+2, api.ErrSign, "who", func(a *asked) { a.who = nil })
	add("an output of 8 more", rankFunds, api.ErrFunds, "outputs", func(a *asked) { a.x.Outs[0].Amount = 188 })
	add("an input of 8 less", rankFunds, api.ErrFunds, "amount", func(a *asked) { a.has[0].out.Amount = 92 })
	add("its output there", rankTaken, api.ErrTwice, "taken", func(a *asked) { a.taken = true })
	add("full", rankPool+1, api.ErrFull, "limit", func(a *asked) { a.limit = 2 })
	add("one more waits", rankPool+1, api.ErrFull, "waits", func(a *asked) { a.waits = append(a.waits, spend(20, point(4))) })
	clash := func(what string, n int) {
		add(what, rankPool, api.ErrFee, "waits", func(a *asked) {
			a.has[5].out = out(100, 5)
			a.waits = []tx.Tx{spend(90, point(2)), spend(100-n, point(5))}
			a.x.Ins = append(slices.Clip(a.x.Ins), tx.In{Point: point(5)})
			a.x.Outs = append(slices.Clip(a.x.Outs), out(100, 3))
			a.who = append(slices.Clip(a.who), 5)
		})
	}
	clash("what waits, for as much", 7)
	clash("what waits, for more", 8)
	clash("what waits, for much more", 90)
	return l
}

// TestSubmitAlone: CH1, each kind of error of the ledger's Check and of the pool's Add, alone; nothing changes then.
func TestSubmitAlone(t *testing.T) {
	newAsked().want(t, "no fault", 0)
	for _, f := range faults() {
		a := newAsked()
		f.do(&a)
		a.want(t, f.what, f.want)
	}
}

// TestSubmitOrder: CH1, of two errors the one that the rule names first: the ledger's ahead of the pool's.
func TestSubmitOrder(t *testing.T) {
	for _, f := range faults() {
		for _, g := range faults() {
			if f.rank >= g.rank || f.field == g.field {
				continue
			}
			a := newAsked()
			g.do(&a)
			f.do(&a)
			a.want(t, f.what+", "+g.what, f.want)
		}
	}
}

// TestSubmitAll: CH1, all errors of Submit together, and one after the other mended.
func TestSubmitAll(t *testing.T) {
	a := newAsked()
	a.limit, a.x.Lock, a.x.Outs[0].Amount, a.who, a.taken = 2, -1, 9, nil, true
	e := &a.has[0]
	e.p.Tx[9]++
	branch := &e.out.Cond.Branches[1]
	branch.After, branch.Older, branch.Lock = 7, 4, cond.Lock(nil)
	a.x.Ins[0].Branch = 3
	for i, step := range []struct {
		want api.Errno
		mend func()
	}{
		{api.ErrRange, func() { a.x.Lock = 7 }},
		{api.ErrDust, func() { a.x.Outs[0].Amount = 188 }},
		{api.ErrEarly, func() { a.x.Lock = 6 }},
		{api.ErrSpent, func() { e.p.Tx[9]-- }},
		{api.ErrRange, func() { a.x.Ins[0].Branch = 1 }},
		{api.ErrSign, func() { a.who = []int{0, 10, 1} }},
		{api.ErrHash, func() { a.x.Ins[0].Secret = nil }},
		{api.ErrEarly, func() { branch.After = 6 }},
		{api.ErrEarly, func() { branch.Older = 3 }},
		{api.ErrSign, func() { a.who = append(a.who, 11) }},
		{api.ErrFunds, func() { a.x.Outs[0].Amount = 187 }},
		{api.ErrTwice, func() { a.taken = false }},
		{api.ErrFull, func() { a.limit = 3 }},
		{0, func() {}},
	} {
		a.want(t, fmt.Sprint("step ", i), step.want)
		step.mend()
	}
}

// TestSubmitTwice: CH1, what waits already, whatever its secrets: ErrTwice, ahead of there being no room, and behind the ledger's errors; what is in a block spends what is spent.
func TestSubmitTwice(t *testing.T) {
	s := newSite(t, 1).coins(3)
	x := s.ask(spend(90, point(0)))
	y := copied(x)
	y.Ins[0].Secret = []byte("another")
	for _, again := range []tx.Tx{x, y} {
		s.submit("again", again, api.ErrTwice)
		s.check("again", again)
	}
	s.mine("mined, with the first one's secret", 1, x)
	s.submit("what is in a block", x, api.ErrSpent)
	s.submit("what is in a block, with another secret", y, api.ErrSpent)
	s.check("what is in a block", x)
	z := s.ask(spend(90, point(1)))
	s.apply(spend(70, point(1)), 1)
	s.submit("what waits, and is spent", z, api.ErrSpent)
	s.check("what waits, and is spent", z)
}

// TestSubmitHeights: CH1, the ledger is asked for the next block's height: of the transaction's Lock, of a branch's After, and of an output's age.
func TestSubmitHeights(t *testing.T) {
	for height := range 6 {
		for wait := range 9 {
			want := api.Errno(0)
			if wait > height+1 {
				want = api.ErrEarly
			}
			for what, lay := range map[string]func(x *tx.Tx, b *cond.Branch){
				"Lock":  func(x *tx.Tx, b *cond.Branch) { x.Lock = wait },
				"After": func(x *tx.Tx, b *cond.Branch) { b.After = wait },
				"Older": func(x *tx.Tx, b *cond.Branch) { b.Older = wait },
			} {
				what = fmt.Sprint(what, " ", wait, " at ", height)
				s := newSite(t, 2)
				for range height {
					s.mine(what, 3)
				}
				x, b := spend(50, point(1)), cond.Branch{Keys: []int{1}}
				lay(&x, &b)
				s.mint(point(1), under(60, b), 0)
				s.sign(x, 1)
				s.submit(what, x, want)
				s.check(what, x)
				if want == 0 {
					s.mine(what, 1, x)
					s.check(what+", mined", x)
				}
			}
		}
	}
}

// TestSubmitTakesPlaces: CH1, one that spends what others spend takes their place, if it pays more than all of them: they wait no more, and no block has them.
func TestSubmitTakesPlaces(t *testing.T) {
	s := newSite(t, 3).coins(6)
	a, b, c := s.ask(spend(90, point(0))), s.ask(spend(180, numbered(1, 2)...)), s.ask(spend(95, point(3)))
	less := spend(170, numbered(0, 1)...)
	s.sign(less, 1)
	s.submit("for as much", less, api.ErrFee)
	s.check("for as much", less)
	more := s.ask(spend(169, numbered(0, 1)...))
	for _, x := range []tx.Tx{a, b} {
		if s.c.Waits(tx.ID(x)) {
			t.Errorf("what lost its place waits: %v", x)
		}
	}
	if s.c.Waiting() != 2 || !s.c.Waits(tx.ID(more)) || !s.c.Waits(tx.ID(c)) {
		t.Errorf("%d wait, want 2", s.c.Waiting())
	}
	s.check("two lost their places", a, b, less)
	s.submit("for less again", a, api.ErrFee)
	d := s.ask(spend(50, point(2)))
	s.check("what is free again", a, b)
	s.mine("mined", most, d, more, c)
	s.check("mined", a, b)
	s.submit("what lost its place, behind the block", a, api.ErrSpent)
}

// TestMineBounds: CH1, most at and beyond its bounds: ErrRange, and no block; else one, of fewer than most, of just most, and with some left over.
func TestMineBounds(t *testing.T) {
	for _, waits := range []int{0, 1, 2, 63, 64, 65, 70} {
		for _, n := range []int{0, 1, 2, 3, 62, 63, 64} {
			s := newSite(t, 70).coins(waits)
			var all []tx.Tx
			for i := range waits {
				all = append(all, s.ask(spend(10+i, point(i))))
			}
			for _, bad := range []int{-1, -2, -64, math.MinInt, 65, 66, 128, 1 << 32, math.MaxInt} {
				ids, err := s.c.Mine(bad)
				wantErr(t, fmt.Sprint("Mine of ", bad), err, api.ErrRange)
				if ids != nil {
					t.Errorf("Mine of %d: %x", bad, ids)
				}
			}
			what := fmt.Sprint(n, " of ", waits)
			s.check(what + ", none mined")
			s.mine(what, n, all[:min(n, waits)]...)
			s.check(what, all...)
			s.mine(what+", again", n, all[min(n, waits):min(2*n, waits)]...)
			s.check(what+", again", all...)
		}
	}
}

// TestMineOrder: CH1, the first of the pool's order is the first of the block: by the fee, the greatest first, and of the same fee the one that was submitted first.
func TestMineOrder(t *testing.T) {
	s := newSite(t, 20).coins(10)
	var l []tx.Tx
	for i, fee := range []int{7, 0, 30, 7, 12, 30, 1, 7, 0, 90} {
		l = append(l, s.ask(spend(100-fee, point(i))))
	}
	s.mine("first", 3, l[9], l[2], l[5])
	s.check("first")
	s.mint(point(50), out(100, 1), 0)
	x := s.ask(spend(88, point(50)))
	s.mine("second", 4, l[4], x, l[0], l[3])
	s.check("second")
	s.mine("third", 4, l[7], l[6], l[1], l[8])
	s.check("third")
	s.mine("none left", 4)
	s.check("none left", l...)
}

// TestMineOnTop: CH1, what a block makes is there for the next one, made at that height.
func TestMineOnTop(t *testing.T) {
	s := newSite(t, 5).coins(1)
	p := point(0)
	for n := range 20 {
		x := spend(90-n, p)
		x.Lock = n + 1
		s.sign(x, 1, 2)
		s.submit("ahead", x, 0)
		if e, ok := s.l.Get(tx.At(x, 0)); ok {
			t.Errorf("its output is there ahead of the block: %v", e)
		}
		next := spend(20, tx.At(x, 0))
		s.sign(next, 1, 2)
		s.submit("what spends an output that is not there yet", next, api.ErrSpent)
		s.mine("on top", 1+n%3, x)
		if e, ok := s.l.Get(tx.At(x, 0)); !ok || e.Height != n+1 || e.Out.Amount != 90-n {
			t.Errorf("its output: %v, %v, want height %d", e, ok, n+1)
		}
		s.check("on top", x, next)
		p = tx.At(x, 0)
	}
}

// refusals are changes from outside by which the ledger refuses what it let by, that spends point 0 and point 1 and pays 20; and whether all that it spends is there still.
func refusals() map[string]struct {
	there bool
	do    func(s *site, x tx.Tx)
} {
	again := func(s *site, n int, o tx.Out, height int) {
		s.apply(spend(100, point(n)), 1)
		s.mint(point(n), o, height)
	}
	return map[string]struct {
		there bool
		do    func(s *site, x tx.Tx)
	}{
		"its first output spent":  {false, func(s *site, x tx.Tx) { s.apply(spend(99, point(0)), 1) }},
		"its second output spent": {false, func(s *site, x tx.Tx) { s.apply(spend(98, point(1)), 1) }},
		"both spent":              {false, func(s *site, x tx.Tx) { s.apply(spend(97, numbered(1, 0)...), 1) }},
		"done from outside":       {false, func(s *site, x tx.Tx) { s.apply(x, 1) }},
		"its own output there":    {true, func(s *site, x tx.Tx) { s.mint(tx.At(x, 0), out(50, 1), 0) }},
		"another one's output":    {true, func(s *site, x tx.Tx) { again(s, 0, out(100, 2), 0) }},
		"less in it":              {true, func(s *site, x tx.Tx) { again(s, 1, out(79, 1), 0) }},
		"a secret asked for":      {true, func(s *site, x tx.Tx) { again(s, 1, under(100, cond.Branch{Keys: []int{1}, Lock: api.Hash{1}}), 0) }},
		"a height not reached":    {true, func(s *site, x tx.Tx) { again(s, 0, under(100, cond.Branch{Keys: []int{1}, After: 9}), 0) }},
		"an age not reached":      {true, func(s *site, x tx.Tx) { again(s, 0, under(100, cond.Branch{Keys: []int{1}, Older: 1}), 9) }},
	}
}

// TestMineRefused: CH1, one that is taken out and refused by the ledger is gone; it is not in the block, pays nothing, and counts for nothing of most.
func TestMineRefused(t *testing.T) {
	for what, r := range refusals() {
		for _, n := range []int{1, 2, 3, most} {
			s := newSite(t, 9).coins(9)
			before := s.ask(spend(60, point(2)))
			x := s.ask(spend(180, numbered(0, 1)...))
			after := []tx.Tx{s.ask(spend(81, point(3))), s.ask(spend(82, point(4))), s.ask(spend(83, point(5)))}
			r.do(s, x)
			s.check(what, x)
			block := append([]tx.Tx{before}, after...)
			s.mine(what, n, block[:min(n, 4)]...)
			s.check(what+", mined", x)
			waits := n == 1 && r.there
			if s.c.Waits(tx.ID(x)) != waits || s.c.When(tx.ID(x)) != 0 || s.c.Fees() != 40+19*min(n-1, 1)+18*max(0, min(n-2, 1))+17*max(0, min(n-3, 1)) {
				t.Errorf("%s, %d: waits %v, fees %d", what, n, s.c.Waits(tx.ID(x)), s.c.Fees())
			}
		}
	}
}

// TestMineRefusedAlone: CH1, where those that wait are refused, one and more of them, the block has none; where none is taken, only those are gone whose outputs are not there.
func TestMineRefusedAlone(t *testing.T) {
	for what, r := range refusals() {
		for _, n := range []int{0, 1, 5} {
			s := newSite(t, 9).coins(2)
			x := s.ask(spend(180, numbered(0, 1)...))
			r.do(s, x)
			s.mine(what, n)
			s.check(what, x)
			if waits := s.c.Waits(tx.ID(x)); waits != (n == 0 && r.there) {
				t.Errorf("%s, Mine of %d: waits %v", what, n, waits)
			}
		}
	}
	s := newSite(t, 20).coins(20)
	var all []tx.Tx
	for i := range 10 {
		all = append(all, s.ask(spend(80+i, point(i))))
		s.mint(tx.At(all[i], 0), out(10, 3), 0)
	}
	x := s.ask(spend(99, point(10)))
	s.mine("ten refused", 1, x)
	s.check("ten refused", all...)
	if s.c.Waiting() != 0 {
		t.Errorf("%d wait still", s.c.Waiting())
	}
}

// TestMineFee: CH1 and CH3, what is paid is what the ledger says as the block is made, though the pool's order goes by what it was.
func TestMineFee(t *testing.T) {
	s := newSite(t, 9).coins(3)
	x, y := s.ask(spend(50, point(0))), s.ask(spend(70, point(1)))
	s.apply(spend(100, point(0)), 1)
	s.mint(point(0), out(53, 1), 0)
	s.mine("less in it", 2, x, y)
	if s.c.Fees() != 33 {
		t.Errorf("Fees: %d, want 33", s.c.Fees())
	}
	s.check("less in it")
}

// TestMineDropsSpent: CH1, at the end of a block all that wait and spend an output that is not there are gone, whichever input it is; the others wait, in their order, and there is room again.
func TestMineDropsSpent(t *testing.T) {
	for _, n := range []int{0, 1, 2} {
		s := newSite(t, 8).coins(30)
		var all []tx.Tx
		for i := range 7 {
			all = append(all, s.ask(spend(280-i%3, numbered(3*i, 3*i+1, 3*i+2)...)))
		}
		first := s.ask(spend(10, numbered(21, 22)...))
		more := spend(50, point(29))
		s.sign(more, 1)
		s.submit("full", more, api.ErrFull)
		for _, gone := range []int{0, 4, 11, 15, 16, 17} {
			s.apply(spend(100, point(gone)), 1)
		}
		s.check("spent from outside", all...)
		want := []tx.Tx{first, all[2], all[4], all[6]}
		var left []tx.Tx
		for _, i := range []int{2, 4, 6} {
			if !slices.ContainsFunc(want[:n], func(x tx.Tx) bool { return same(x, all[i]) }) {
				left = append(left, all[i])
			}
		}
		s.mine("with some gone", n, want[:n]...)
		s.check("with some gone", all...)
		for _, i := range []int{0, 1, 3, 5} {
			if s.c.Waits(tx.ID(all[i])) {
				t.Errorf("Mine of %d: %d waits, and spends what is not there", n, i)
			}
		}
		for _, x := range left {
			if !s.c.Waits(tx.ID(x)) {
				t.Errorf("Mine of %d: %v waits no more", n, x)
			}
		}
		s.submit("room again", more, 0)
		s.check("room again", all...)
		s.ask(spend(99, point(1)))
		s.mine("the rest", most, slices.Concat([]tx.Tx{first}[min(n, 1):], []tx.Tx{more}, left, []tx.Tx{spend(99, point(1))})...)
		s.check("the rest", all...)
	}
}

// TestMineAtTheEnd: CH1, what is not there ahead of a block, and is made by it, is there at its end: who spends it is in the block behind that one, or waits on.
func TestMineAtTheEnd(t *testing.T) {
	for n := range 4 {
		s := newSite(t, 4).coins(2)
		maker := spend(60, point(0))
		s.mint(tx.At(maker, 0), out(60, 1), 0)
		x := s.ask(spend(30, tx.At(maker, 0)))
		s.apply(spend(60, tx.At(maker, 0)), 1)
		s.ask(maker)
		s.sign(x, 2)
		s.mine("made by the block", n, []tx.Tx{maker, x}[:min(n, 2)]...)
		s.check("made by the block", maker, x)
		if waits := s.c.Waits(tx.ID(x)); waits != (n == 1) {
			t.Errorf("Mine of %d: waits %v", n, waits)
		}
	}
}

// TestMineNone: CH1 and CH2, a block of none is one: heights go on, and depths.
func TestMineNone(t *testing.T) {
	s := newSite(t, 4).coins(2)
	for range 5 {
		s.mine("none waits", most)
		s.mine("none asked for", 0)
	}
	s.check("ten of none")
	x := s.ask(spend(90, point(0)))
	s.mine("none taken", 0)
	s.check("none taken", x)
	s.mine("one", 1, x)
	for n := range 5 {
		if s.c.When(tx.ID(x)) != 12 || s.c.Depth(tx.ID(x)) != n+1 || s.c.Height() != 12+n {
			t.Errorf("When, Depth, Height: %d, %d, %d", s.c.When(tx.ID(x)), s.c.Depth(tx.ID(x)), s.c.Height())
		}
		s.mine("on top", 1)
	}
	s.check("on top", x)
}

// some is a chain of four blocks, of some of which each transaction has more than one input, and of some that wait.
func some(t *testing.T) (*site, []tx.Tx) {
	t.Helper()
	s := newSite(t, 9).coins(40)
	var all []tx.Tx
	for i := range 9 {
		all = append(all, s.ask(spend(210+10*i, numbered(3*i, 3*i+1, 3*i+2)...)))
	}
	s.mine("block 1", 2, all[:2]...)
	s.mine("block 2", 0)
	s.mine("block 3", 4, all[2:6]...)
	next := spend(100, tx.At(all[3], 0), point(30))
	s.sign(next, 1, 2)
	s.submit("on top", next, 0)
	s.mine("block 4", 1, next)
	return s, append(all, next)
}

// TestTold: CH2, what is in a block, what waits, and what is unknown, told by the whole ID, and by the whole point.
func TestTold(t *testing.T) {
	s, all := some(t)
	unknown := spend(77, point(35))
	s.check("some", unknown, tx.Tx{})
	for i, want := range []struct{ when, depth int }{{1, 4}, {1, 4}, {3, 2}, {3, 2}, {3, 2}, {3, 2}, {}, {}, {}, {4, 1}} {
		id := tx.ID(all[i])
		if s.c.When(id) != want.when || s.c.Depth(id) != want.depth || s.c.Waits(id) != (want.when == 0) {
			t.Errorf("%d: When, Depth, Waits: %d, %d, %v, want %d, %d", i, s.c.When(id), s.c.Depth(id), s.c.Waits(id), want.when, want.depth)
		}
		for at := range id {
			near := id
			near[at] ^= 128
			if s.c.When(near) != 0 || s.c.Depth(near) != 0 || s.c.Waits(near) {
				t.Errorf("%d: one with an ID near it", i)
			}
			x, err := s.c.Find(near)
			wantTx(t, "Find of one near it", x, err, tx.Tx{}, api.ErrNone)
			for _, in := range all[i].Ins {
				in.Point.Tx[at] ^= 128
				x, err := s.c.Spender(in.Point)
				wantTx(t, "Spender of one near it", x, err, tx.Tx{}, api.ErrNone)
			}
		}
		for _, in := range all[i].Ins {
			for _, n := range []int{1 << 20, -1 << 20, math.MinInt} {
				near := in.Point
				near.N += n
				x, err := s.c.Spender(near)
				wantTx(t, "Spender of a number near it", x, err, tx.Tx{}, api.ErrNone)
			}
		}
	}
	if s.c.Fees() != 90+80+70+60+50+40+240 || s.c.Waiting() != 3 || s.c.Height() != 4 {
		t.Errorf("Fees, Waiting, Height: %d, %d, %d", s.c.Fees(), s.c.Waiting(), s.c.Height())
	}
	for _, o := range []tx.Point{{}, {N: 1}, tx.At(all[0], 0), tx.At(all[9], 0), tx.At(unknown, 0), point(39)} {
		if o == point(0) {
			continue
		}
		x, err := s.c.Spender(o)
		wantTx(t, fmt.Sprint("Spender of what nobody spends, ", o), x, err, tx.Tx{}, api.ErrNone)
	}
}

// TestMintedAnew: CH1 and CH2, an output that is minted anew at a point that was spent is another one: it may be spent, and the later of two transactions is told, of its point and of its ID; each block has what it had.
func TestMintedAnew(t *testing.T) {
	s := newSite(t, 4).coins(2)
	x := s.ask(spend(90, point(0)))
	s.mine("first", 1, x)
	s.mint(point(0), out(100, 1), 0)
	y := s.ask(spend(80, numbered(0, 1)...))
	s.mine("another one", 1, y)
	s.check("another one", x)
	s.mint(point(0), out(100, 1), 0)
	z := copied(x)
	z.Ins[0].Secret = []byte("later")
	s.submit("the same, whose output is there", z, api.ErrTwice)
	down := spend(20, tx.At(x, 0))
	s.sign(down, 1, 2)
	s.submit("its output spent", down, 0)
	s.mine("its output spent", 1, down)
	s.submit("the same again", z, 0)
	s.mine("the same again", 1, z)
	s.check("the same again", x)
	if s.c.When(tx.ID(x)) != 4 || s.c.Depth(tx.ID(x)) != 1 {
		t.Errorf("When, Depth: %d, %d", s.c.When(tx.ID(x)), s.c.Depth(tx.ID(x)))
	}
}

// TestNil: CH2, a nil chain answers ErrArg ahead of all other errors, and nothing.
func TestNil(t *testing.T) {
	var c *chain.Chain
	for _, x := range []tx.Tx{{}, spend(5, point(1)), spend(50, point(1))} {
		wantErr(t, "Submit", c.Submit(x), api.ErrArg)
	}
	for _, n := range []int{-1, 0, 1, 64, 65, math.MinInt, math.MaxInt} {
		ids, err := c.Mine(n)
		wantErr(t, "Mine", err, api.ErrArg)
		block, no := c.Block(n)
		wantErr(t, "Block", no, api.ErrArg)
		if ids != nil || block != nil {
			t.Errorf("Mine, Block: %x, %v", ids, block)
		}
	}
	x, err := c.Find(api.Hash{})
	wantTx(t, "Find", x, err, tx.Tx{}, api.ErrArg)
	x, err = c.Spender(tx.Point{})
	wantTx(t, "Spender", x, err, tx.Tx{}, api.ErrArg)
	if c.Height() != 0 || c.When(api.Hash{}) != 0 || c.Depth(api.Hash{}) != 0 || c.Waits(api.Hash{}) || c.Waiting() != 0 || c.Fees() != 0 || c.Ledger() != nil {
		t.Error("a nil chain has something")
	}
}

// dice are numbers without an order, the same ones each time.
type dice uint64

// next is a number from 0 to n - 1.
func (d *dice) next(n int) int {
	*d = *d*6364136223846793005 + 1442695040888963407
	return int(*d >> 33 % dice(n))
}

// checkNoTwo looks for two transactions in blocks that spend the same output, and holds the ledger against what it had, less what was paid, without the lists.
func checkNoTwo(t *testing.T, what string, c *chain.Chain, had int) {
	t.Helper()
	seen := map[tx.Point]int{}
	for h := 1; h <= c.Height(); h++ {
		block, err := c.Block(h)
		wantErr(t, what+": Block", err, 0)
		for _, x := range block {
			for _, in := range x.Ins {
				if before, twice := seen[in.Point]; twice {
					t.Errorf("%s: %v is spent in block %d and in block %d", what, in.Point, before, h)
				}
				seen[in.Point] = h
				if e, there := c.Ledger().Get(in.Point); there {
					t.Errorf("%s: what is spent is there: %v", what, e)
				}
				if y, err := c.Spender(in.Point); err != nil || !same(x, y) {
					t.Errorf("%s: Spender: %v, %v, want %v", what, y, err, x)
				}
			}
		}
	}
	if got := c.Ledger().Total(); got != had-c.Fees() || c.Fees() < 0 {
		t.Errorf("%s: the ledger has %d, want %d less %d", what, got, had, c.Fees())
	}
}

// TestNoTwo: CH3, no two transactions in blocks spend the same output, and the ledger has what it had, less Fees, whatever was submitted and mined.
func TestNoTwo(t *testing.T) {
	for seed := range 20 {
		d, s := dice(seed), newSite(t, 1+seed).coins(30)
		gone := numbered(0, 1, 2, 3)
		counts := map[api.Errno]int{}
		var before []tx.Tx
		for n := range 200 {
			what := fmt.Sprint("seed ", seed, ", step ", n)
			switch d.next(6) {
			case 0:
				m := d.next(4)
				block := s.p.mine(m)
				ids, err := s.c.Mine(m)
				wantErr(t, what+": Mine", err, 0)
				if !slices.Equal(ids, idsOf(block)) {
					t.Errorf("%s: Mine: %x, want those of %v", what, ids, block)
				}
			default:
				x := spend(10 + d.next(100)*(1+d.next(2)))
				for range d.next(4) {
					there := s.l.Points()
					if d.next(5) == 0 {
						there = gone
					}
					x.Ins = append(x.Ins, tx.In{Point: there[d.next(len(there))]})
				}
				x.Lock = d.next(8) * (s.c.Height() + 2) / 6
				if d.next(5) == 0 && len(before) > 0 {
					x = before[d.next(len(before))]
				}
				s.sign(x, 1, 2)
				no := s.p.submit(x)
				wantErr(t, what+": Submit", s.c.Submit(x), no)
				counts[no]++
				before, gone = append(before, x), append(gone, tx.At(x, 0))
			}
			if n%20 == 0 {
				s.check(what, before[max(0, len(before)-20):]...)
			}
		}
		checkNoTwo(t, fmt.Sprint("seed ", seed), s.c, 3000)
		if counts[0] < 5 || counts[api.ErrSpent] == 0 || counts[api.ErrRange] == 0 || counts[api.ErrEarly] == 0 || counts[api.ErrFunds] == 0 {
			t.Errorf("seed %d: too much alike: %v", seed, counts)
		}
	}
}

// fill overwrites a transaction, its lists, and their spare room.
func fill(x *tx.Tx) {
	for i := range x.Ins[:cap(x.Ins)] {
		in := &x.Ins[:cap(x.Ins)][i]
		for j := range in.Secret[:cap(in.Secret)] {
			in.Secret[:cap(in.Secret)][j] = 77
		}
		in.Point, in.Branch, in.Secret = point(77), 7, []byte("77")
	}
	for i := range x.Outs[:cap(x.Outs)] {
		o := &x.Outs[:cap(x.Outs)][i]
		for j := range o.Cond.Branches[:cap(o.Cond.Branches)] {
			b := &o.Cond.Branches[:cap(o.Cond.Branches)][j]
			for k := range b.Keys[:cap(b.Keys)] {
				b.Keys[:cap(b.Keys)][k] = 77
			}
			*b = cond.Branch{Keys: []int{77}, Lock: api.Hash{3: 77}, After: 77, Older: 77}
		}
		*o = tx.Out{Amount: 77, Cond: cond.All(7)}
	}
	x.Lock = 77
}

// roomy is a transaction whose lists have spare room, in which something stands.
func roomy(points ...int) tx.Tx {
	x := spend(20, numbered(points...)...)
	x.Ins = append(x.Ins, tx.In{Point: point(900), Secret: []byte("spare")})[:len(points)]
	for i := range x.Ins {
		x.Ins[i].Secret = append(x.Ins[i].Secret, 1, 2, 3)[:2]
	}
	keys := func(n int) []int { return append(make([]int, 0, 8), n, n+5)[:1] }
	x.Outs[0].Cond.Branches = append(make([]cond.Branch, 0, 4), cond.Branch{Keys: keys(1), Older: 4}, cond.Branch{Keys: keys(2)}, cond.Branch{Keys: keys(3)})[:2]
	x.Outs = append(x.Outs, tx.Out{Amount: 44, Cond: cond.All(4)}, tx.Out{Amount: 55, Cond: cond.All(5)})[:2]
	return x
}

// TestMemoryIn: rule 3, a transaction that is submitted is not changed and not kept, spare room neither: not while it waits, not in a block, not in the ledger.
func TestMemoryIn(t *testing.T) {
	s := newSite(t, 9).coins(12)
	var all []tx.Tx
	for n := range 6 {
		x := roomy(2*n, 2*n+1)
		s.ask(x)
		s.submit("again", x, api.ErrTwice)
		if !reflect.DeepEqual(x, roomy(2*n, 2*n+1)) || x.Ins[:3][2].Point != point(900) || x.Outs[:3][2].Amount != 55 {
			t.Errorf("what was handed in is changed: %v", x)
		}
		if n%2 == 0 {
			fill(&x)
		}
		all = append(all, x)
	}
	s.check("some overwritten as they wait", all...)
	s.mine("mined", 4, roomy(0, 1), roomy(2, 3), roomy(4, 5), roomy(6, 7))
	for n := range all {
		fill(&all[n])
	}
	s.check("all overwritten", all...)
	s.mine("the rest", 4, roomy(8, 9), roomy(10, 11))
	s.check("the rest", all...)
}

// parts adds one to each number of a transaction's lists, and writes behind their ends: what is shared would be seen.
func parts(t *testing.T, what string, x tx.Tx) {
	t.Helper()
	was := copied(x)
	bump := func(x tx.Tx) {
		for i := range x.Ins {
			for j := range x.Ins[i].Secret {
				x.Ins[i].Secret[j]++
			}
			_ = append(x.Ins[i].Secret, 99)
		}
		for i := range x.Outs {
			for j := range x.Outs[i].Cond.Branches {
				b := &x.Outs[i].Cond.Branches[j]
				b.After++
				for k := range b.Keys {
					b.Keys[k]++
				}
				_ = append(b.Keys, 99)
			}
			_ = append(x.Outs[i].Cond.Branches, cond.Branch{After: 99})
		}
		_, _ = append(x.Ins, tx.In{}), append(x.Outs, tx.Out{})
	}
	bump(x)
	bump(was)
	if !same(x, was) {
		t.Errorf("%s: two lists of one answer share: %v", what, x)
	}
}

// TestMemoryShared: rule 3, transactions that are submitted with lists in common have none in common in blocks, nor in one answer.
func TestMemoryShared(t *testing.T) {
	secrets, keys := []byte("abcdef"), []int{1, 2, 3}
	branches := []cond.Branch{{Keys: keys[:1]}, {Keys: keys[:2]}, {Keys: keys}}
	outs := []tx.Out{{Amount: 20, Cond: cond.Cond{Branches: branches[:2]}}, {Amount: 30, Cond: cond.Cond{Branches: branches}}}
	ins := []tx.In{{Point: point(1), Secret: secrets[:2]}, {Point: point(2), Secret: secrets}, {Point: point(3), Secret: secrets}}
	s := newSite(t, 4).coins(4)
	x, y := s.ask(tx.Tx{Ins: ins[:2], Outs: outs[:1]}), s.ask(tx.Tx{Ins: ins[2:], Outs: outs})
	wasX, wasY := copied(x), copied(y)
	s.mine("mined", 2, x, y)
	for range 2 {
		block, _ := s.c.Block(1)
		for _, z := range block {
			parts(t, "Block", z)
		}
		for _, want := range []tx.Tx{wasX, wasY} {
			z, err := s.c.Find(tx.ID(want))
			wantTx(t, "Find", z, err, want, 0)
			parts(t, "Find", z)
			for _, in := range want.Ins {
				z, err := s.c.Spender(in.Point)
				wantTx(t, "Spender", z, err, want, 0)
				parts(t, "Spender", z)
			}
		}
		s.check("answers overwritten")
	}
	if !same(x, wasX) || !same(y, wasY) {
		t.Error("what was handed in is changed")
	}
}

// TestMemoryOut: rule 3, who overwrites what Block, Find, Spender or Mine told, or its spare room, changes nothing of the chain, nor of its ledger, and no other answer.
func TestMemoryOut(t *testing.T) {
	s, all := some(t)
	for h := 1; h <= s.c.Height(); h++ {
		first, _ := s.c.Block(h)
		second, _ := s.c.Block(h)
		for i := range first {
			fill(&first[i])
		}
		for i := range first[:cap(first)] {
			first[:cap(first)][i] = spend(99, point(99))
		}
		if !slices.EqualFunc(second, s.p.blocks[h-1], same) {
			t.Errorf("Block: an answer changed with another one: %v", second)
		}
		s.check("what Block answered overwritten", all...)
	}
	for _, x := range slices.Concat(s.p.blocks...) {
		first, _ := s.c.Find(tx.ID(x))
		second, err := s.c.Find(tx.ID(x))
		third, _ := s.c.Spender(x.Ins[0].Point)
		fourth, no := s.c.Spender(x.Ins[0].Point)
		fill(&first)
		fill(&third)
		wantTx(t, "Find, of which another answer is overwritten", second, err, x, 0)
		wantTx(t, "Spender, of which another answer is overwritten", fourth, no, x, 0)
		s.check("what Find and Spender answered overwritten", all...)
	}
	want := s.p.mine(3)
	ids, err := s.c.Mine(3)
	wantErr(t, "Mine", err, 0)
	if !slices.Equal(ids, idsOf(want)) || len(ids) != 3 {
		t.Errorf("Mine: %x", ids)
	}
	for i := range ids[:cap(ids)] {
		ids[:cap(ids)][i] = api.Hash{9}
	}
	s.check("what Mine answered overwritten", all...)
}

// TestMemoryStays: rule 3, what was told stays as it is, whatever the chain goes on with.
func TestMemoryStays(t *testing.T) {
	s, all := some(t)
	block, _ := s.c.Block(1)
	x, _ := s.c.Find(tx.ID(all[0]))
	y, _ := s.c.Spender(all[1].Ins[0].Point)
	first, _ := s.c.Mine(1)
	for range 5 {
		_, _ = s.c.Mine(1)
	}
	if !slices.EqualFunc(block, all[:2], same) || !same(x, all[0]) || !same(y, all[1]) || !slices.Equal(first, idsOf(all[6:7])) {
		t.Error("what was told is changed")
	}
}

// TestAskingChangesNothing: rule 4, what is asked leaves nothing, and the same answer comes again.
func TestAskingChangesNothing(t *testing.T) {
	s, all := some(t)
	for range 3 {
		s.check("asked again", append(all, spend(77, point(33)))...)
	}
	other, _ := some(t)
	for range 2 {
		first, err := s.c.Mine(2)
		second, no := other.c.Mine(2)
		if !slices.Equal(first, second) || number(err) != number(no) {
			t.Errorf("two chains to which the same was done tell unlike things: %x, %x", first, second)
		}
	}
	if s.c.Fees() != other.c.Fees() || !slices.Equal(s.l.Points(), other.l.Points()) {
		t.Error("two chains to which the same was done have unlike things")
	}
}

// TestMany: rule 1, calls end at once, where as many wait as can, and blocks are many.
func TestMany(t *testing.T) {
	s := newSite(t, api.MaxList)
	at := func(n int) tx.Point { return tx.Point{Tx: api.Hash{byte(n), byte(n >> 8)}} }
	var all []tx.Tx
	for n := range api.MaxList {
		s.mint(at(n), out(100, 1), 0)
		x := spend(10+n%80, at(n))
		s.sign(x, 1)
		wantErr(t, "one of many", s.c.Submit(x), 0)
		all = append(all, x)
	}
	before, fees := 0, 0
	for h := 1; h <= api.MaxList/most; h++ {
		ids, err := s.c.Mine(most)
		wantErr(t, "a block of many", err, 0)
		if len(ids) != most || s.c.Waiting() != api.MaxList-h*most {
			t.Fatalf("block %d: %d, and %d wait", h, len(ids), s.c.Waiting())
		}
		for _, id := range ids {
			x, err := s.c.Find(id)
			wantErr(t, "Find of one of many", err, 0)
			if x.Outs[0].Amount < before {
				t.Fatalf("block %d: not in order", h)
			}
			before = x.Outs[0].Amount
			fees += 100 - before
		}
	}
	for range 10000 {
		if _, err := s.c.Mine(most); err != nil {
			t.Fatal(err)
		}
	}
	for _, x := range all {
		if s.c.Depth(tx.ID(x)) < 10001 {
			t.Fatalf("Depth of %v: %d", x, s.c.Depth(tx.ID(x)))
		}
		if y, err := s.c.Spender(x.Ins[0].Point); err != nil || !same(x, y) {
			t.Fatalf("Spender: %v, %v", y, err)
		}
	}
	if s.c.Fees() != fees || s.l.Total() != 100*api.MaxList-fees || s.c.Height() != 10000+api.MaxList/most {
		t.Errorf("Fees, Total, Height: %d, %d, %d", s.c.Fees(), s.l.Total(), s.c.Height())
	}
}

// TestWide: rule 1, calls end at once for transactions of as many inputs and outputs as can be.
func TestWide(t *testing.T) {
	s := newSite(t, api.MaxList)
	var all []tx.Tx
	for n := range most {
		x := tx.Tx{Lock: 1}
		for i := range api.MaxIO {
			p := tx.Point{Tx: api.Hash{byte(n)}, N: i}
			s.mint(p, out(100, 1), 0)
			x.Ins = append(x.Ins, tx.In{Point: p, Secret: make([]byte, 64)})
			x.Outs = append(x.Outs, under(99, slices.Repeat([]cond.Branch{{Keys: everybody()}}, 8)...))
		}
		all = append(all, s.ask(x))
	}
	s.mine("wide ones", most, all...)
	block, err := s.c.Block(1)
	wantErr(t, "Block", err, 0)
	if !slices.EqualFunc(block, all, same) {
		t.Error("Block: others")
	}
	for _, x := range all {
		y, err := s.c.Spender(x.Ins[api.MaxIO-1].Point)
		wantTx(t, "Spender", y, err, x, 0)
	}
	if s.c.Fees() != most*api.MaxIO || len(s.l.Points()) != most*api.MaxIO {
		t.Errorf("Fees %d, and %d outputs", s.c.Fees(), len(s.l.Points()))
	}
}

// FuzzChain: CH1 to CH3, a chain to which is submitted, of which blocks are made, and whose ledger changes from outside, in any order, is the plain lists. Four bytes are a step.
func FuzzChain(f *testing.F) {
	f.Add(byte(2), []byte{0, 1, 2, 5, 0, 3, 4, 9, 0, 5, 6, 9, 64, 2, 0, 0, 0, 1, 3, 15, 128, 1, 2, 0, 64, 9, 0, 0})
	f.Add(byte(5), []byte{1, 1, 1, 5, 2, 2, 2, 5, 3, 3, 3, 5, 192, 2, 9, 0, 64, 1, 0, 0, 4, 12, 13, 20, 5, 12, 14, 30, 64, 9, 0, 0, 64, 0, 0, 0})
	f.Add(byte(3), []byte{0, 1, 1, 50, 64, 1, 0, 0, 192, 1, 80, 0, 0, 1, 1, 60, 64, 1, 0, 0, 16, 12, 1, 30, 64, 4, 0, 0})
	f.Fuzz(func(t *testing.T, limit byte, steps []byte) {
		s := newSite(t, 1+int(limit%8)).coins(12)
		points := numbered(0, 1, 2, 3, 4, 5, 6, 7, 8, 9, 10, 11)
		steps = steps[:min(len(steps), 240)]
		for ; len(steps) >= 4; steps = steps[4:] {
			b := steps[:4]
			x := spend(10+int(b[3]), points[int(b[1])%len(points)], points[int(b[2])%len(points)])
			x.Ins, x.Lock = x.Ins[:2-b[0]>>3&1], int(b[0]&7)
			s.sign(x, 1)
			if b[0]&16 == 0 {
				s.sign(x, 2)
			}
			switch b[0] >> 6 {
			case 1:
				n := int(b[1]) % 8
				s.mine("a block", n, mined(s, n)...)
			case 2:
				applyBoth(s, x, int(b[0]&7))
			case 3:
				mintBoth(s, points[int(b[1])%len(points)], out(10+int(b[2]), 1), int(b[0]&7))
			default:
				wantErr(t, "Submit", s.c.Submit(x), s.p.submit(x))
				points = append(points, tx.At(x, 0))
			}
			s.check("behind a step", x)
		}
	})
}

// mined is what the next block would have, by the rule; nothing is done.
func mined(s *site, n int) []tx.Tx {
	p := *s.p
	p.l, p.waits, p.blocks = p.l.Clone(), slices.Clone(p.waits), slices.Clone(p.blocks)
	return p.mine(n)
}

// applyBoth does a transaction from outside, if the ledger lets it by.
func applyBoth(s *site, x tx.Tx, height int) {
	fee, err := s.l.Apply(x, height, s.b)
	_, other := s.p.l.Apply(x, height, s.b)
	if number(err) != number(other) {
		s.t.Errorf("Apply from outside: %v, by the lists %v", err, other)
	}
	s.p.had -= fee
}

// mintBoth makes an output from outside, if the ledger lets it by.
func mintBoth(s *site, p tx.Point, o tx.Out, height int) {
	err, other := s.l.Mint(p, o, height), s.p.l.Mint(p, o, height)
	if number(err) != number(other) {
		s.t.Errorf("Mint from outside: %v, by the lists %v", err, other)
	}
	if err == nil {
		s.p.had += o.Amount
	}
}
