package tree_test

import (
	"errors"
	"fmt"
	"math/big"
	"reflect"
	"slices"
	"strings"
	"testing"

	"bayou/api"
	"bayou/cond"
	"bayou/tree"
	"bayou/tx"
)

// The bounds, as the document tells them.
const (
	maxAmount = 1 << 50
	maxHeight = 1 << 40
	maxIO     = 64
	parties   = 16
	dust      = 10
	mostLeft  = 1 << 30
)

// number is an error's number; 0: none.
func number(t *testing.T, err error) api.Errno {
	t.Helper()
	var no api.Errno
	if err != nil && !errors.As(err, &no) {
		t.Errorf("an error without a number: %v", err)
	}
	return no
}

// wantErr holds an error against the number that is asked for; 0: none.
func wantErr(t *testing.T, what string, err error, want api.Errno) {
	t.Helper()
	if number(t, err) != want {
		t.Errorf("%s: %v, want %d", what, err, int(want))
	}
}

// want holds an answer, and its error, against those that are asked for.
func want[T any](t *testing.T, what string, got T, err error, wanted T, no api.Errno) {
	t.Helper()
	wantErr(t, what, err, no)
	if fmt.Sprint(got) != fmt.Sprint(wanted) {
		t.Errorf("%s: %v, want %v", what, got, wanted)
	}
}

// sumText is a sum as text, without the noughts at its end.
func sumText(h api.Hash) string { return fmt.Sprintf("%x", strings.TrimRight(string(h[:]), "\x00")) }

// told is all of some transactions as text; what is nought in a branch is left out.
func told(all []tx.Tx) string {
	b := &strings.Builder{}
	for _, x := range all {
		fmt.Fprintf(b, "lock %d\n", x.Lock)
		for _, in := range x.Ins {
			fmt.Fprintf(b, "in %s:%d by %d %q\n", sumText(in.Point.Tx), in.Point.N, in.Branch, in.Secret)
		}
		for _, o := range x.Outs {
			fmt.Fprintf(b, "out %d", o.Amount)
			for _, by := range o.Cond.Branches {
				fmt.Fprintf(b, " | %v", by.Keys)
				if (by.Lock != api.Hash{}) {
					fmt.Fprintf(b, " lock %s", sumText(by.Lock))
				}
				if by.After != 0 {
					fmt.Fprintf(b, " after %d", by.After)
				}
				if by.Older != 0 {
					fmt.Fprintf(b, " older %d", by.Older)
				}
			}
			fmt.Fprintln(b)
		}
	}
	return b.String()
}

// point is a point whose sum begins with a byte.
func point(x byte, n int) tx.Point { return tx.Point{Tx: api.Hash{x}, N: n} }

// out is an output of which each branch asks for some keys alone.
func out(amount int, keys ...[]int) tx.Out {
	o := tx.Out{Amount: amount}
	for _, k := range keys {
		o.Cond.Branches = append(o.Cond.Branches, cond.Branch{Keys: k})
	}
	return o
}

// cloneOuts are outputs apart.
func cloneOuts(l []tx.Out) []tx.Out {
	l = slices.Clone(l)
	for i := range l {
		l[i].Cond.Branches = slices.Clone(l[i].Cond.Branches)
		for j := range l[i].Cond.Branches {
			l[i].Cond.Branches[j].Keys = slices.Clone(l[i].Cond.Branches[j].Keys)
		}
	}
	return l
}

// sum is what numbers have together, however great they are.
func sum(numbers ...int) *big.Int {
	s := new(big.Int)
	for _, n := range numbers {
		s.Add(s, big.NewInt(int64(n)))
	}
	return s
}

// times is so often a number, however great it is.
func times(n int, of *big.Int) *big.Int { return new(big.Int).Mul(big.NewInt(int64(n)), of) }

// above tells whether a number is above another one.
func above(n *big.Int, most int) bool { return n.Cmp(big.NewInt(int64(most))) > 0 }

// plainCheck is Check's number, by the words of TR1.
func plainCheck(c tree.Config) api.Errno {
	if c.Depth < 1 || c.Depth > 8 || c.Step < 1 || c.Last < 1 || c.First < c.Last || c.First > maxHeight {
		return api.ErrArg
	}
	span := sum(c.First, -c.Last, 1)
	if above(new(big.Int).Add(big.NewInt(int64(c.First)), times(c.Depth, span)), maxHeight) {
		return api.ErrArg
	}
	if (c.First-c.Last)/c.Step > 255 || c.Fee < 0 || c.Fee > maxAmount || c.Amount < dust || c.Amount > maxAmount {
		return api.ErrArg
	}
	if len(c.Keys) < 2 || len(c.Keys) > parties {
		return api.ErrParty
	}
	for i, k := range c.Keys {
		if k < 0 || k > 15 || i > 0 && k <= c.Keys[i-1] {
			return api.ErrParty
		}
	}
	if c.Amount-c.Depth*c.Fee < dust {
		return api.ErrDust
	}
	return 0
}

// heights are those that a rank may have, from First down.
func heights(c tree.Config) []int {
	var l []int
	for h := c.First; h >= c.Last; h -= c.Step {
		l = append(l, h)
	}
	return l
}

// plainPath is the number of who asks for something of a path.
func plainPath(c tree.Config, p tree.Path) api.Errno {
	if no := plainCheck(c); no != 0 {
		return no
	}
	if len(p) != c.Depth {
		return api.ErrArg
	}
	for _, h := range p {
		if !slices.Contains(heights(c), h) {
			return api.ErrArg
		}
	}
	return 0
}

// plainBegin is what Begin must answer.
func plainBegin(c tree.Config) (tree.Path, api.Errno) {
	if no := plainCheck(c); no != 0 {
		return nil, no
	}
	var p tree.Path
	for range c.Depth {
		p = append(p, c.First)
	}
	return p, 0
}

// plainRoom is what Room must answer.
func plainRoom(c tree.Config) (int, api.Errno) {
	if no := plainCheck(c); no != 0 {
		return 0, no
	}
	return c.Amount - c.Depth*c.Fee, 0
}

// plainNext is what Next must answer.
func plainNext(c tree.Config, p tree.Path) (tree.Path, api.Errno) {
	if no := plainPath(c, p); no != 0 {
		return nil, no
	}
	l := heights(c)
	for rank := c.Depth - 1; rank >= 0; rank-- {
		at := slices.Index(l, p[rank])
		if at == len(l)-1 {
			continue
		}
		q, _ := plainBegin(c)
		copy(q, p[:rank])
		q[rank] = l[at+1]
		return q, 0
	}
	return nil, api.ErrSlot
}

// plainLeft is what Left must answer: of all paths behind one, which are told by how far down each rank is.
func plainLeft(c tree.Config, p tree.Path) (int, api.Errno) {
	if no := plainPath(c, p); no != 0 {
		return 0, no
	}
	l := heights(c)
	left := new(big.Int)
	for _, h := range p {
		left = times(len(l), left)
		left.Add(left, big.NewInt(int64(len(l)-1-slices.Index(l, h))))
	}
	if above(left, mostLeft) {
		return mostLeft, 0
	}
	return int(left.Int64()), 0
}

// differ is the first rank at which two paths of one tree differ; none: how many there are.
func differ(p, q tree.Path) int {
	rank := 0
	for rank < len(p) && p[rank] == q[rank] {
		rank++
	}
	return rank
}

// plainNewer is what Newer must answer.
func plainNewer(c tree.Config, p, q tree.Path) bool {
	if plainPath(c, p) != 0 || plainPath(c, q) != 0 {
		return false
	}
	rank := differ(p, q)
	return rank < c.Depth && p[rank] < q[rank]
}

// plainWaits is what a rank waits for: its height, and a Span for each rank ahead of it.
func plainWaits(c tree.Config, p tree.Path, rank int) int {
	h := p[rank]
	for range rank {
		h += c.First - c.Last + 1
	}
	return h
}

// plainDue is what Due must answer.
func plainDue(c tree.Config, p tree.Path) (int, api.Errno) {
	if no := plainPath(c, p); no != 0 {
		return 0, no
	}
	return plainWaits(c, p, c.Depth-1), 0
}

// plainFunds tells whether outputs have an amount together.
func plainFunds(outs []tx.Out, amount int) bool {
	s := new(big.Int)
	for _, o := range outs {
		s.Add(s, big.NewInt(int64(o.Amount)))
	}
	return s.Cmp(big.NewInt(int64(amount))) == 0
}

// plainBuild is what Build must answer.
func plainBuild(t *testing.T, c tree.Config, p tree.Path, outs []tx.Out) ([]tx.Tx, api.Errno) {
	t.Helper()
	if no := plainPath(c, p); no != 0 {
		return nil, no
	}
	if !plainFunds(outs, c.Amount-c.Depth*c.Fee) {
		return nil, api.ErrFunds
	}
	var all []tx.Tx
	for rank := range p {
		x := tx.Tx{Lock: plainWaits(c, p, rank), Ins: []tx.In{{Point: c.Point}}}
		if rank > 0 {
			x.Ins[0].Point = tx.Point{Tx: tx.ID(all[rank-1])}
		}
		if rank == c.Depth-1 {
			x.Outs = outs
		} else {
			x.Outs = []tx.Out{out(c.Amount-(rank+1)*c.Fee, c.Keys)}
		}
		if err := tx.Check(x); err != nil {
			return nil, number(t, err)
		}
		all = append(all, x)
	}
	return all, 0
}

// wantTxs holds transactions against those that are asked for.
func wantTxs(t *testing.T, what string, got []tx.Tx, err error, wanted []tx.Tx, no api.Errno) {
	t.Helper()
	wantErr(t, what, err, no)
	if told(got) != told(wanted) {
		t.Errorf("%s:\n%swant\n%s", what, told(got), told(wanted))
	}
}

// scene is what the calls are given.
type scene struct {
	what string
	c    tree.Config
	p, q tree.Path
	outs []tx.Out
}

// clone is a scene apart.
func (s scene) clone() scene {
	s.c.Keys = slices.Clone(s.c.Keys)
	s.p, s.q = slices.Clone(s.p), slices.Clone(s.q)
	s.outs = cloneOuts(s.outs)
	return s
}

// try holds all calls against what they must answer (TR1 to TR3), and what was handed in against what it was.
func (s scene) try(t *testing.T) {
	t.Helper()
	ahead := s.clone()
	wantErr(t, s.what+": Check", tree.Check(s.c), plainCheck(s.c))
	s.tryOf(t)
	for _, p := range []tree.Path{s.p, s.q} {
		s.tryPath(t, p)
	}
	for _, two := range [][2]tree.Path{{s.p, s.q}, {s.q, s.p}, {s.p, s.p}} {
		if got, wanted := tree.Newer(s.c, two[0], two[1]), plainNewer(s.c, two[0], two[1]); got != wanted {
			t.Errorf("%s: Newer of %v: %v, want %v", s.what, two, got, wanted)
		}
	}
	if !reflect.DeepEqual(s, ahead) {
		t.Errorf("%s: what was handed in was changed: %v, ahead %v", s.what, s, ahead)
	}
}

// tryOf holds the calls of a tree alone against what they must answer.
func (s scene) tryOf(t *testing.T) {
	t.Helper()
	room, err := tree.Room(s.c)
	wanted, no := plainRoom(s.c)
	want(t, s.what+": Room", room, err, wanted, no)
	begin, err := tree.Begin(s.c)
	first, no := plainBegin(s.c)
	want(t, s.what+": Begin", begin, err, first, no)
}

// tryPath holds the calls of a path against what they must answer.
func (s scene) tryPath(t *testing.T, p tree.Path) {
	t.Helper()
	what := fmt.Sprint(s.what, ": ", p, ": ")
	next, err := tree.Next(s.c, p)
	behind, no := plainNext(s.c, p)
	want(t, what+"Next", next, err, behind, no)
	left, err := tree.Left(s.c, p)
	wanted, no := plainLeft(s.c, p)
	want(t, what+"Left", left, err, wanted, no)
	due, err := tree.Due(s.c, p)
	wanted, no = plainDue(s.c, p)
	want(t, what+"Due", due, err, wanted, no)
	all, err := tree.Build(s.c, p, s.outs)
	txs, no := plainBuild(t, s.c, p, s.outs)
	wantTxs(t, what+"Build", all, err, txs, no)
}

// base is a scene that all calls let by: heights 20, 17, 14 and 11, a Span of 10, a Room of 85.
func base() scene {
	return scene{
		what: "base",
		c:    tree.Config{Point: point(9, 3), Amount: 100, Keys: []int{1, 2, 5}, Depth: 3, First: 20, Last: 11, Step: 3, Fee: 5},
		p:    tree.Path{20, 14, 17},
		q:    tree.Path{20, 17, 11},
		outs: []tx.Out{out(50, []int{1}, []int{2, 5}), out(35, []int{2})},
	}
}

// small is a tree of few paths, of a Room of 20.
func small(depth, first, last, step int) tree.Config {
	return tree.Config{Point: point(7, 1), Amount: 20 + 2*depth, Keys: []int{0, 3}, Depth: depth, First: first, Last: last, Step: step, Fee: 2}
}

// smalls are trees of few paths: those of which Step divides First less Last, and others.
func smalls() []tree.Config {
	var l []tree.Config
	for i, most := range []int{9, 6, 3, 2} {
		for more := range most + 1 {
			for step := 1; step <= more+1; step++ {
				l = append(l, small(i+1, 1+more, 1, step), small(i+1, 5+more, 5, step))
			}
		}
	}
	return append(l, small(8, 2, 1, 1), small(8, 9, 9, 4), small(5, 7, 3, 3))
}

// every are all paths of a tree, by hand: the first ranks turn slowest.
func every(c tree.Config) []tree.Path {
	all := []tree.Path{nil}
	for range c.Depth {
		var longer []tree.Path
		for _, p := range all {
			for _, h := range heights(c) {
				longer = append(longer, append(slices.Clone(p), h))
			}
		}
		all = longer
	}
	return all
}
