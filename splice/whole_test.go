package splice_test

import (
	"fmt"
	"math"
	"math/rand/v2"
	"testing"

	"bayou/api"
	"bayou/build"
	"bayou/cond"
	"bayou/ledger"
	"bayou/oath"
	"bayou/splice"
	"bayou/state"
	"bayou/tx"
)

// amounts are numbers around the bounds of an amount.
func amounts() []int {
	return []int{0, 1, -1, dust - 1, dust, 20, 50, 1000, maxAmount / 2, maxAmount - 100, maxAmount, maxAmount + 1, -maxAmount, 1 << 62, -1 << 62, math.MaxInt, math.MinInt}
}

// someState is a made-up state that may be, mostly.
func someState(r *rand.Rand) state.State {
	s := state.State{Number: r.IntN(5), Has: [2]int{r.IntN(200), r.IntN(200)}}
	if r.IntN(20) == 0 {
		s.Number = maxHeight - r.IntN(3)
	}
	if r.IntN(10) == 0 {
		s.Has[r.IntN(2)] = maxAmount - 500*r.IntN(2)
	}
	for i := range r.IntN(4) {
		s.Pays = append(s.Pays, pay(2*i+1, r.IntN(2), dust+r.IntN(9)))
	}
	for i := range r.IntN(4) {
		s.Holds = append(s.Holds, hold(3*i, dust+r.IntN(9), upTo(5)[r.IntN(3):3+r.IntN(3)]...))
	}
	return s
}

// some are made-up amounts, few of which are at a bound.
func some(r *rand.Rand, wild int) []int {
	var l []int
	for range r.IntN(4) {
		n := dust + r.IntN(60)
		if r.IntN(wild) == 0 {
			n = amounts()[r.IntN(len(amounts()))] + r.IntN(3)
		}
		l = append(l, n)
	}
	return l
}

// SP1 to SP3 over many deals that are made up, of which a good part is built: all calls beside the plain rules.
func TestMany(t *testing.T) {
	r := rand.New(rand.NewPCG(19, 1))
	good := 0
	for i := range 6000 {
		s := scene{what: fmt.Sprint("deal ", i), side: r.IntN(4) - 1, c: coin(byte(20+r.IntN(3)), r.IntN(4), dust+r.IntN(50)), o: out(dust+r.IntN(9), upTo(1+r.IntN(3)))}
		wild := []int{3, 30, 1000}[i%3]
		s.d = deal(someState(r), r.IntN(9), two(some(r, wild), some(r, wild)), two(some(r, wild), some(r, wild)))
		s.d.Params.Delay, s.d.Params.Keys = 1+r.IntN(9), [2]int{r.IntN(4), 4 + r.IntN(12)}
		if r.IntN(20) == 0 {
			s.d.Params.Amount += r.IntN(3) - 1
		}
		if r.IntN(10) == 0 {
			s.d.Ready[r.IntN(2)] = false
		}
		s.try(t)
		if _, err := buildOf(s.d); err == nil {
			good++
		}
	}
	if good < 2000 {
		t.Errorf("%d deals alone were built", good)
	}
}

// pair is two parties' channel on a ledger, and what has come of it.
type pair struct {
	t *testing.T
	l *ledger.Ledger
	p build.Params
	s state.State
}

// mint is a coin on the ledger that parties own.
func (x pair) mint(n, amount int, keys ...int) splice.Coin {
	x.t.Helper()
	c := coin(100, n, amount)
	wantErr(x.t, "Mint", x.l.Mint(c.Point, tx.Out{Amount: amount, Cond: cond.All(keys...)}, 0), 0)
	return c
}

// opened is a channel of the parties 4 and 1 on a ledger.
func opened(t *testing.T, s state.State, fee int) pair {
	t.Helper()
	x := pair{t: t, l: ledger.New(), s: s, p: build.Params{Amount: all(s), Keys: [2]int{4, 1}, Delay: 5, Fee: fee}}
	x.p.Point = x.mint(63, all(s), 1, 4).Point
	return x
}

// applied is the ledger behind a transaction that some parties signed, at a height; its fee must be that.
func (x pair) applied(what string, y tx.Tx, height, fee int, no api.Errno, who ...int) *ledger.Ledger {
	x.t.Helper()
	l, b := x.l.Clone(), oath.New()
	for _, party := range who {
		wantErr(x.t, "Sign", b.Sign(party, tx.ID(y)), 0)
	}
	got, err := l.Apply(y, height, b)
	want(x.t, what, got, err, fee, no)
	if l.Total()+got != x.l.Total() {
		x.t.Errorf("%s: the ledger has %d and a fee of %d, ahead %d", what, l.Total(), got, x.l.Total())
	}
	return l
}

// SP2, SP3: a deal is done on a ledger when both sides sign, and who owns what is brought, and not else; its fee is Fee, the channel goes on at its new output, and is spliced, and closed, again.
func TestDone(t *testing.T) {
	s := state.State{Number: 8, Has: [2]int{60, 70}, Pays: []state.Pay{pay(2, 0, 20), pay(5, 1, 30)}, Holds: []state.Hold{hold(1, 15, 1, 2, 4)}}
	x := opened(t, s, 5)
	for i := range 4 {
		what := fmt.Sprint("deal ", i, ": ")
		d, err := splice.New(x.p, x.s)
		wantErr(t, what+"New", err, 0)
		d, err = splice.Bring(d, 0, x.mint(2*i, 40+i, 4))
		wantErr(t, what+"Bring", err, 0)
		d, err = splice.Bring(d, 1, x.mint(2*i+1, 30, 2, 3))
		wantErr(t, what+"Bring", err, 0)
		d, err = splice.Take(d, 1, out(45, []int{1}))
		wantErr(t, what+"Take", err, 0)
		d, err = splice.Close(d, 1)
		wantErr(t, what+"Close", err, 0)
		d, err = splice.Take(d, 0, out(20, []int{6}, []int{4}))
		wantErr(t, what+"Take", err, 0)
		d, err = splice.Close(d, 0)
		wantErr(t, what+"Close", err, 0)
		got, err := buildOf(d)
		wantErr(t, what+"Build", err, 0)
		for _, who := range [][]int{nil, {1}, {4}, {1, 4}, {2, 3, 4}, {1, 2, 3}, {1, 2, 4}, {1, 3, 4}, {0, 5, 6}} {
			x.applied(what+fmt.Sprint("signed by ", who), got.t, 10+i, 0, api.ErrSign, who...)
		}
		ahead := x.p
		x.l = x.applied(what+"signed by all", got.t, 10+i, 5, 0, 1, 2, 3, 4)
		if _, there := x.l.Get(ahead.Point); there {
			t.Errorf("%sthe channel's old output is there", what)
		}
		e, there := x.l.Get(got.p.Point)
		if !there || e.Out.Amount != got.p.Amount || !cond.Same(e.Out.Cond, cond.All(1, 4)) {
			t.Errorf("%sthe channel's new output: %v", what, e)
		}
		x.p, x.s = got.p, got.s
		for owner := range 2 {
			c, err := build.Commit(x.p, x.s, owner, api.Hash{7})
			wantErr(t, what+"Commit", err, 0)
			x.applied(what+"Commit", c, 20+i, 5, 0, 1, 4)
			c, err = build.Commit(ahead, s, owner, api.Hash{7})
			wantErr(t, what+"Commit to the old one", err, 0)
			x.applied(what+"Commit to the old one", c, 20+i, 0, api.ErrSpent, 1, 4)
		}
		s = x.s
	}
	want(t, "the state", x.s.Has, nil, [2]int{60 + 40 + 41 + 42 + 43 - 4*25, 70 - 4*15}, 0)
	want(t, "the number", x.s.Number, nil, 12, 0)
}

// FuzzDeals makes deals by rows of calls, each of a deal that was made ahead, all beside the plain rules; no deal changes any more.
func FuzzDeals(f *testing.F) {
	f.Add(100, 50, 5, []byte{0, 0, 20, 1, 1, 30, 5, 2, 40, 2, 0, 0, 6, 1, 0})
	f.Add(maxAmount-50, 40, 0, []byte{0, 0, 200, 16, 1, 30, 5, 2, 40, 2, 0, 0, 6, 1, 0, 10, 3, 0})
	f.Add(0, 0, 0, []byte{0, 0, 255, 1, 1, 254, 5, 2, 253, 2, 0, 0})
	f.Fuzz(func(t *testing.T, zero, one, fee int, row []byte) {
		s := state.State{Number: len(row), Has: [2]int{zero, one}, Pays: []state.Pay{pay(1, 0, 20)}, Holds: []state.Hold{hold(2, 30, 1, 2)}}
		p := build.Params{Point: point(20, 0), Amount: zero + one + 50, Keys: [2]int{7, 3}, Delay: 5, Fee: fee}
		first, err := splice.New(p, s)
		wanted, no := plainNew(t, p, s)
		want(t, "New", first, err, wanted, no)
		deals := []splice.Deal{first, {Params: p, State: s}}
		var texts []string
		for _, d := range deals {
			texts = append(texts, fmt.Sprint(d))
		}
		for i := 0; i+2 < len(row) && i < 300; i += 3 {
			from, n := int(row[i]>>2), amounts()[int(row[i+2])%len(amounts())]
			if row[i+2] >= 100 {
				n = int(row[i+2]) - 95
			}
			x := scene{what: fmt.Sprint("call ", i/3), d: deals[(len(deals)-1+from)%len(deals)], side: int(row[i+1]%4) - 1, c: coin(20+row[i+1]>>6, int(row[i+2]%8), n), o: out(n, []int{int(row[i+1] >> 4)})}
			x.try(t)
			if d, err := step(x, int(row[i]%4)); err == nil {
				deals, texts = append(deals, d), append(texts, fmt.Sprint(d))
			}
		}
		for i, d := range deals {
			want(t, fmt.Sprint("the deal ", i), fmt.Sprint(d), nil, texts[i], 0)
		}
	})
}

// step makes another deal of a scene's.
func step(x scene, kind int) (splice.Deal, error) {
	switch kind {
	case 0:
		return splice.Bring(x.d, x.side, x.c)
	case 1:
		return splice.Take(x.d, x.side, x.o)
	case 2:
		return splice.Close(x.d, x.side)
	}
	_, p, s, err := splice.Build(x.d)
	if err != nil {
		return splice.Deal{}, err
	}
	return splice.New(p, s)
}
