package factory_test

import (
	"errors"
	"fmt"
	"math"
	"math/big"
	"slices"
	"strings"
	"testing"

	"bayou/api"
	"bayou/cond"
	"bayou/factory"
	"bayou/oath"
	"bayou/tree"
	"bayou/tx"
)

// The bounds and kinds, as the document tells them.
const (
	maxAmount  = 1 << 50
	parties    = 16
	mostRounds = 2000
	mostAhead  = 16
	kindOffer  = 1
	kindSigned = 2
	kindRefuse = 3
)

// number is an error's number; 0: none.
func number(t *testing.T, err error) api.Errno {
	t.Helper()
	var no api.Errno
	if err != nil && !errors.As(err, &no) {
		t.Errorf("an error without a number: %v", err)
	}
	return no
}

// wantErr holds an error against the number that is asked for; 0: none.
func wantErr(t *testing.T, what string, err error, want api.Errno) {
	t.Helper()
	if number(t, err) != want {
		t.Errorf("%s: %v, want %d", what, err, int(want))
	}
}

// want holds an answer, and its error, against those that are asked for.
func want[T any](t *testing.T, what string, got T, err error, wanted T, no api.Errno) {
	t.Helper()
	wantErr(t, what, err, no)
	if fmt.Sprint(got) != fmt.Sprint(wanted) {
		t.Errorf("%s: %v, want %v", what, got, wanted)
	}
}

// out is an output of which each branch asks for some keys alone.
func out(amount int, keys ...[]int) tx.Out {
	o := tx.Out{Amount: amount}
	for _, k := range keys {
		o.Cond.Branches = append(o.Cond.Branches, cond.Branch{Keys: k})
	}
	return o
}

// shares are outputs of which the parties from 0 on have so much each; who has nothing has no output.
func shares(amounts ...int) []tx.Out {
	var l []tx.Out
	for who, n := range amounts {
		if n != 0 {
			l = append(l, out(n, []int{who}))
		}
	}
	return l
}

// cloneOuts are outputs apart.
func cloneOuts(l []tx.Out) []tx.Out {
	l = slices.Clone(l)
	for i := range l {
		l[i].Cond.Branches = slices.Clone(l[i].Cond.Branches)
		for j := range l[i].Cond.Branches {
			l[i].Cond.Branches[j].Keys = slices.Clone(l[i].Cond.Branches[j].Keys)
		}
	}
	return l
}

// outsText is all of some outputs as text.
func outsText(outs []tx.Out) string {
	b := &strings.Builder{}
	for _, o := range outs {
		fmt.Fprintf(b, " out %d", o.Amount)
		for _, by := range o.Cond.Branches {
			fmt.Fprintf(b, " | %v %x %d %d", by.Keys, by.Lock[:4], by.After, by.Older)
		}
	}
	return b.String()
}

// msgsText is all of some messages as text.
func msgsText(l []factory.Msg) string {
	b := &strings.Builder{}
	for _, x := range l {
		fmt.Fprintf(b, "kind %d of %d round %d:%s; ", x.Kind, x.From, x.Round, outsText(x.Outs))
	}
	return b.String()
}

// txsText is all of some transactions as text.
func txsText(all []tx.Tx) string {
	b := &strings.Builder{}
	for _, x := range all {
		fmt.Fprintf(b, "lock %d ins %v:%s; ", x.Lock, x.Ins, outsText(x.Outs))
	}
	return b.String()
}

// plainShare is what Share must answer.
func plainShare(outs []tx.Out, who int) int {
	sum := new(big.Int)
	for _, o := range outs {
		for _, by := range o.Cond.Branches {
			if len(by.Keys) == 1 && by.Keys[0] == who && by.Lock == (api.Hash{}) && by.After == 0 && by.Older == 0 {
				sum.Add(sum, big.NewInt(int64(o.Amount)))
				break
			}
		}
	}
	switch {
	case sum.Cmp(big.NewInt(maxAmount)) > 0:
		return 0
	case !sum.IsInt64():
		return math.MinInt
	}
	return int(sum.Int64())
}

// heights are those that a rank may have, from First down.
func heights(c tree.Config) []int {
	var l []int
	for h := c.First; h >= c.Last; h -= c.Step {
		l = append(l, h)
	}
	return l
}

// plainRound is what Round must answer: the heights are the digits of the round's number, the last rank those of the ones.
func plainRound(t *testing.T, c tree.Config, n int) (tree.Path, api.Errno) {
	t.Helper()
	if n < 0 || n > mostRounds {
		return nil, api.ErrRange
	}
	if no := number(t, tree.Check(c)); no != 0 {
		return nil, no
	}
	l := heights(c)
	p := make(tree.Path, c.Depth)
	for rank := c.Depth - 1; rank >= 0; rank-- {
		p[rank] = l[n%len(l)]
		n /= len(l)
	}
	if n > 0 {
		return nil, api.ErrSlot
	}
	return p, 0
}

// plainBuild are the transactions of a round.
func plainBuild(t *testing.T, c tree.Config, n int, outs []tx.Out) ([]tx.Tx, api.Errno) {
	t.Helper()
	p, no := plainRound(t, c, n)
	if no != 0 {
		return nil, no
	}
	all, err := tree.Build(c, p, outs)
	return all, number(t, err)
}

// laid is a round that somebody signed.
type laid struct {
	n    int
	outs []tx.Out
	ids  []api.Hash
}

// scene is a factory: its tree, a book, and beside it, plainly, what each party signed, in order.
type scene struct {
	t       *testing.T
	what    string
	c       tree.Config
	book    *oath.Book
	signed  [parties][]api.Hash
	members []*member
}

// member is a member, and what it must be: all rounds that it signed, and what it must have in those of others.
type member struct {
	*scene
	real   *factory.Member
	who    int
	least  int
	rounds []laid
}

// newScene is a factory of which nobody is a member yet.
func newScene(t *testing.T, what string, c tree.Config) *scene {
	return &scene{t: t, what: what, c: c, book: oath.New()}
}

// join is a new member.
func (s *scene) join(who int, outs []tx.Out) *member {
	s.t.Helper()
	m := &member{scene: s, who: who}
	all, no := plainBuild(s.t, s.c, 0, outs)
	wantErr(s.t, s.what+": the round 0", errOf(no), 0)
	m.sign(0, outs, all)
	var err error
	m.real, err = factory.New(s.c, who, s.book, outs)
	wantErr(s.t, s.what+": New", err, 0)
	s.members = append(s.members, m)
	s.look()
	return m
}

// joined is a factory of which all that have Keys are members.
func joined(t *testing.T, what string, c tree.Config, outs []tx.Out) *scene {
	t.Helper()
	s := newScene(t, what, c)
	for _, who := range c.Keys {
		s.join(who, outs)
	}
	return s
}

// errOf is a number as an error.
func errOf(no api.Errno) error {
	if no == 0 {
		return nil
	}
	return no
}

// note has it down that somebody signed something.
func (s *scene) note(who int, id api.Hash) {
	if !slices.Contains(s.signed[who], id) {
		s.signed[who] = append(s.signed[who], id)
	}
}

// outside has somebody sign all of a round, who is no member here.
func (s *scene) outside(who, n int, outs []tx.Out) {
	s.t.Helper()
	all, no := plainBuild(s.t, s.c, n, outs)
	wantErr(s.t, s.what+": a round from outside", errOf(no), 0)
	for _, x := range all {
		s.outsideOne(who, tx.ID(x))
	}
}

// outsideOne has somebody sign one sum.
func (s *scene) outsideOne(who int, id api.Hash) {
	s.t.Helper()
	wantErr(s.t, s.what+": Sign", s.book.Sign(who, id), 0)
	s.note(who, id)
}

// sign is what the member does when it signs a round, plainly.
func (m *member) sign(n int, outs []tx.Out, all []tx.Tx) {
	r := laid{n: n, outs: cloneOuts(outs)}
	for _, x := range all {
		r.ids = append(r.ids, tx.ID(x))
	}
	for _, id := range slices.Backward(r.ids) {
		m.note(m.who, id)
	}
	m.rounds = append(m.rounds, r)
	m.least = plainShare(outs, m.who)
}

// last is what Last must answer.
func (m *member) last() int { return m.rounds[len(m.rounds)-1].n }

// all tells whether all have signed a round.
func (m *member) all(r laid) bool {
	for _, id := range r.ids {
		for _, who := range m.c.Keys {
			if !slices.Contains(m.signed[who], id) {
				return false
			}
		}
	}
	return true
}

// active is the round that Active must answer.
func (m *member) active() laid {
	best := m.rounds[0]
	for _, r := range m.rounds {
		if r.n > best.n && m.all(r) {
			best = r
		}
	}
	return best
}

// plainOffer is what Offer must answer, and what it must do.
func (m *member) plainOffer(outs []tx.Out) ([]factory.Msg, api.Errno) {
	n := m.last() + 1
	all, no := plainBuild(m.t, m.c, n, outs)
	if no != 0 {
		return nil, no
	}
	m.sign(n, outs, all)
	return []factory.Msg{{Kind: kindOffer, From: m.who, Round: n, Outs: outs}, {Kind: kindSigned, From: m.who, Round: n}}, 0
}

// plainHandle is what Handle must answer, and what it must do.
func (m *member) plainHandle(x factory.Msg) ([]factory.Msg, api.Errno) {
	if x.Kind != kindOffer && x.Kind != kindSigned && x.Kind != kindRefuse {
		return nil, api.ErrArg
	}
	if x.From == m.who || !slices.Contains(m.c.Keys, x.From) {
		return nil, api.ErrParty
	}
	if x.Kind != kindOffer {
		return nil, 0
	}
	if x.Round <= m.last() {
		return nil, api.ErrOld
	}
	if x.Round > m.last()+mostAhead {
		return nil, api.ErrState
	}
	all, no := plainBuild(m.t, m.c, x.Round, x.Outs)
	if no != 0 {
		return nil, no
	}
	if plainShare(x.Outs, m.who) < m.least {
		return []factory.Msg{{Kind: kindRefuse, From: m.who, Round: x.Round}}, 0
	}
	m.sign(x.Round, x.Outs, all)
	return []factory.Msg{{Kind: kindSigned, From: m.who, Round: x.Round}}, 0
}

// wantMsgs holds what a call told against what it must tell.
func (m *member) wantMsgs(what string, got []factory.Msg, err error, wanted []factory.Msg, no api.Errno) {
	m.t.Helper()
	wantErr(m.t, m.what+": "+what, err, no)
	if msgsText(got) != msgsText(wanted) {
		m.t.Errorf("%s: %s:\n%s\nwant\n%s", m.what, what, msgsText(got), msgsText(wanted))
	}
	m.look()
}

// offer has the member offer a round: what it tells.
func (m *member) offer(outs []tx.Out) []factory.Msg {
	m.t.Helper()
	ahead := outsText(outs)
	wanted, no := m.plainOffer(outs)
	got, err := m.real.Offer(outs)
	m.wantMsgs(fmt.Sprint(m.who, " offers"), got, err, wanted, no)
	if outsText(outs) != ahead {
		m.t.Errorf("%s: Offer has changed what was handed in", m.what)
	}
	return got
}

// hear has the member hear a message: what it tells.
func (m *member) hear(x factory.Msg) []factory.Msg {
	m.t.Helper()
	ahead := outsText(x.Outs)
	wanted, no := m.plainHandle(x)
	got, err := m.real.Handle(x)
	m.wantMsgs(fmt.Sprint(m.who, " hears ", x.Kind, " of ", x.From, " round ", x.Round), got, err, wanted, no)
	if outsText(x.Outs) != ahead {
		m.t.Errorf("%s: Handle has changed what was handed in", m.what)
	}
	return got
}

// allow has the member allow a share.
func (m *member) allow(least int) {
	m.t.Helper()
	m.real.Allow(least)
	if least >= 0 && least <= m.least {
		m.least = least
	}
	m.look()
}

// look holds all that can be asked for against what it must be.
func (s *scene) look() {
	s.t.Helper()
	for who := range parties {
		if got := s.book.Sums(who); !slices.Equal(got, s.signed[who]) {
			s.t.Errorf("%s: %d has signed %x, want %x", s.what, who, got, s.signed[who])
		}
	}
	for _, m := range s.members {
		m.lookAt()
	}
}

// lookAt holds what a member tells of itself against what it must be.
func (m *member) lookAt() {
	m.t.Helper()
	what := fmt.Sprint(m.what, ": of ", m.who)
	want(m.t, what+": Last", m.real.Last(), nil, m.last(), 0)
	r := m.active()
	n, outs := m.real.Active()
	if n != r.n || outsText(outs) != outsText(r.outs) {
		m.t.Errorf("%s: Active %d %s, want %d %s", what, n, outsText(outs), r.n, outsText(r.outs))
	}
	wanted, no := plainBuild(m.t, m.c, r.n, r.outs)
	all, err := m.real.Exit()
	wantErr(m.t, what+": Exit", err, no)
	if txsText(all) != txsText(wanted) {
		m.t.Errorf("%s: Exit %s, want %s", what, txsText(all), txsText(wanted))
	}
}

// base is a tree of three parties, of 36 paths, and of a Room of 90.
func base() tree.Config {
	return tree.Config{Point: tx.Point{Tx: api.Hash{9}, N: 3}, Amount: 100, Keys: []int{0, 1, 2}, Depth: 2, First: 20, Last: 10, Step: 2, Fee: 5}
}

// wide is a tree of more than 2,000 paths.
func wide() tree.Config {
	c := base()
	c.Depth, c.Amount = 5, 115
	return c
}

// upTo are the numbers from 0 on, so many.
func upTo(n int) []int {
	l := make([]int, n)
	for i := range l {
		l[i] = i
	}
	return l
}
