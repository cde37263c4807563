package tree_test

import (
	"fmt"
	"slices"
	"testing"

	"bayou/api"
	"bayou/chain"
	"bayou/cond"
	"bayou/ledger"
	"bayou/oath"
	"bayou/tree"
	"bayou/tx"
)

// races are small trees: of one rank and of more, of one height and of more, with a Step that divides First less Last and with others.
func races() []tree.Config {
	return []tree.Config{
		small(1, 9, 5, 1), small(1, 8, 1, 3), small(2, 4, 1, 1), small(2, 9, 6, 2), small(2, 3, 1, 4), small(3, 3, 1, 1), small(3, 8, 4, 3), small(4, 2, 1, 1), small(8, 5, 5, 1),
	}
}

// build are the transactions of a path, of which who has all of its Room is told by its place.
func build(t *testing.T, c tree.Config, p tree.Path, place int) []tx.Tx {
	t.Helper()
	all, err := tree.Build(c, p, []tx.Out{{Amount: 20, Cond: cond.Cond{Branches: []cond.Branch{{Keys: []int{place % parties}, After: place / parties}}}}})
	wantErr(t, fmt.Sprint("Build of ", p), err, 0)
	return all
}

// rounds are the transactions of all paths of a tree, each path newer than all ahead of it.
func rounds(t *testing.T, c tree.Config) [][]tx.Tx {
	t.Helper()
	var l [][]tx.Tx
	for i, p := range every(c) {
		l = append(l, build(t, c, p, i))
	}
	return l
}

// owned is a ledger that has the output of a tree.
func owned(t *testing.T, c tree.Config) *ledger.Ledger {
	t.Helper()
	l := ledger.New()
	wantErr(t, "Mint", l.Mint(c.Point, tx.Out{Amount: c.Amount, Cond: cond.All(c.Keys...)}, 0), 0)
	return l
}

// signed is a book in which some signed all of some transactions.
func signed(t *testing.T, rounds [][]tx.Tx, who ...int) *oath.Book {
	t.Helper()
	b := oath.New()
	for _, all := range rounds {
		for _, x := range all {
			for _, party := range who {
				wantErr(t, "Sign", b.Sign(party, tx.ID(x)), 0)
			}
		}
	}
	return b
}

// TR4: for each two paths of small trees: the transactions ahead of the first rank at which they differ are the same, and wait less than the newer one's there; the older one's there waits for more.
func TestNewerLocks(t *testing.T) {
	for _, c := range races() {
		paths, all := every(c), rounds(t, c)
		for i := range paths {
			for j := range i {
				rank := differ(paths[i], paths[j])
				what := fmt.Sprint(c, ": ", paths[i], " behind ", paths[j])
				if !tree.Newer(c, paths[i], paths[j]) {
					t.Fatalf("%s is not newer", what)
				}
				if told(all[i][:rank]) != told(all[j][:rank]) {
					t.Errorf("%s: not the same ahead of the rank %d", what, rank)
				}
				if all[i][rank].Lock >= all[j][rank].Lock {
					t.Errorf("%s: waits for %d, the older one for %d", what, all[i][rank].Lock, all[j][rank].Lock)
				}
				if rank > 0 && all[i][rank-1].Lock >= all[i][rank].Lock {
					t.Errorf("%s: the one ahead waits for %d", what, all[i][rank-1].Lock)
				}
			}
		}
	}
}

// apply does transactions, each at the height that it waits for and not at the one ahead of it: the fees.
func apply(t *testing.T, what string, l *ledger.Ledger, b *oath.Book, all []tx.Tx) int {
	t.Helper()
	fees := 0
	for rank, x := range all {
		_, err := l.Check(x, x.Lock-1, b)
		wantErr(t, fmt.Sprint(what, ": the rank ", rank, " early"), err, api.ErrEarly)
		fee, err := l.Apply(x, x.Lock, b)
		wantErr(t, fmt.Sprint(what, ": the rank ", rank), err, 0)
		fees += fee
	}
	return fees
}

// TR4: on a ledger: at the height at which the newer path's transaction can be done, at the first rank at which they differ, the older one's can't be, and behind it never; the newer path is then done whole, and pays its Fees.
func TestNewerLedger(t *testing.T) {
	for _, c := range races() {
		paths, all := every(c), rounds(t, c)
		b := signed(t, all, c.Keys...)
		for i := range paths {
			for j := range i {
				rank := differ(paths[i], paths[j])
				what := fmt.Sprint(c, ": ", paths[i], " behind ", paths[j])
				l := owned(t, c)
				apply(t, what, l, b, all[j][:rank])
				_, err := l.Check(all[j][rank], all[i][rank].Lock, b)
				wantErr(t, what+": the older one at that height", err, api.ErrEarly)
				fees := apply(t, what, l, b, all[i][rank:]) + rank*c.Fee
				for _, x := range all[j] {
					_, err := l.Check(x, maxHeight, b)
					wantErr(t, what+": the older one behind it", err, api.ErrSpent)
				}
				if fees != c.Depth*c.Fee || l.Total() != c.Amount-fees || len(l.Points()) != 1 {
					t.Errorf("%s: fees of %d, outputs of %d", what, fees, l.Total())
				}
				e, _ := l.Get(tx.At(all[i][c.Depth-1], 0))
				if place := e.Out.Cond.Branches; len(place) != 1 || place[0].Keys[0] != i%parties || place[0].After != i/parties {
					t.Errorf("%s: it pays out %v", what, e.Out)
				}
			}
		}
	}
}

// mined makes blocks up to a height, ahead of each of which all that can be is asked for, in that order: where each transaction then is.
func mined(t *testing.T, c tree.Config, b *oath.Book, height int, asked ...[]tx.Tx) *chain.Chain {
	t.Helper()
	ch, err := chain.New(api.MaxList, owned(t, c), b)
	wantErr(t, "New", err, 0)
	for range height {
		for _, all := range asked {
			for _, x := range all {
				_ = ch.Submit(x) // an error is one of what is too early, or was done, as is seen at the end
			}
		}
		_, err := ch.Mine(64)
		wantErr(t, "Mine", err, 0)
	}
	return ch
}

// wantDone holds a chain against the path that must be done on it: each transaction in the block that it waits for, and none beside them.
func wantDone(t *testing.T, what string, c tree.Config, ch *chain.Chain, all []tx.Tx) {
	t.Helper()
	for rank, x := range all {
		if got := ch.When(tx.ID(x)); got != x.Lock {
			t.Errorf("%s: the rank %d is in the block %d, want %d", what, rank, got, x.Lock)
		}
	}
	if ch.Fees() != c.Depth*c.Fee || ch.Ledger().Total() != c.Amount-c.Depth*c.Fee {
		t.Errorf("%s: fees of %d", what, ch.Fees())
	}
}

// TR4: on a chain: who asks ahead of each block for all of an older path, ahead of who asks for all of a newer one, is late; Due of it is the block in which it is done. Who is alone has the older one done.
func TestNewerChain(t *testing.T) {
	for _, c := range races() {
		paths, all := every(c), rounds(t, c)
		b := signed(t, all, c.Keys...)
		height := c.First + c.Depth*(c.First-c.Last+1)
		for i := range paths {
			due, err := tree.Due(c, paths[i])
			wantErr(t, "Due", err, 0)
			wantDone(t, fmt.Sprint(paths[i], " alone"), c, mined(t, c, b, due, all[i]), all[i])
			for j := range i {
				what := fmt.Sprint(c, ": ", paths[i], " behind ", paths[j])
				wantDone(t, what, c, mined(t, c, b, height, all[j], all[i]), all[i])
			}
		}
		wantDone(t, fmt.Sprint(c, ": all paths"), c, mined(t, c, b, height, all...), all[len(all)-1])
	}
}

// TR3, TR4: no rank is done, unless all Keys sign it.
func TestSigners(t *testing.T) {
	c := tree.Config{Point: point(2, 5), Amount: 26, Keys: []int{1, 4, 9}, Depth: 3, First: 4, Last: 2, Step: 1, Fee: 2}
	all := build(t, c, tree.Path{3, 4, 2}, 1)
	full := signed(t, [][]tx.Tx{all}, 1, 4, 9)
	for set := range 16 {
		var who []int
		for i, party := range []int{1, 4, 9, 2} {
			if set>>i&1 == 1 {
				who = append(who, party)
			}
		}
		no := api.ErrSign
		if slices.Contains(who, 1) && slices.Contains(who, 4) && slices.Contains(who, 9) {
			no = 0
		}
		b, l := signed(t, [][]tx.Tx{all}, who...), owned(t, c)
		for rank, x := range all {
			_, err := l.Check(x, x.Lock, b)
			wantErr(t, fmt.Sprint("the rank ", rank, " signed by ", who), err, no)
			_, err = l.Apply(x, x.Lock, full)
			wantErr(t, "all", err, 0)
		}
	}
}
