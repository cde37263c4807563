package peer_test

import (
	"bytes"
	"errors"
	"fmt"
	"maps"
	"math"
	"slices"
	"strings"
	"testing"

	"bayou/api"
	"bayou/blake"
	"bayou/build"
	"bayou/oath"
	"bayou/pages"
	"bayou/peer"
	"bayou/shelf"
	"bayou/state"
	"bayou/tx"
	"bayou/wire"
)

// The bounds, kinds and steps, as the document tells them.
const (
	maxHeight = 1 << 40
	maxAmount = 1 << 50
	pageSize  = 1 << 12

	kindMove   = 1
	kindAdd    = 2
	kindSettle = 3
	kindFail   = 4

	kindPropose = 1
	kindAgree   = 2
	kindCommit  = 3
	kindDone    = 4
	kindRefuse  = 5

	idle      = 0
	proposed  = 1
	agreed    = 2
	committed = 3
)

// stepNames are the steps as words.
var stepNames = []string{"idle", "proposed", "agreed", "committed"}

// is tells whether an error is the one of that number; 0: none.
func is(err error, want api.Errno) bool { return errnoOf(err) == want }

// errnoOf is an error's number; 0: none.
func errnoOf(err error) api.Errno {
	var got api.Errno
	switch {
	case err == nil:
		return 0
	case errors.As(err, &got):
		return got
	}
	return -1
}

// wantErr holds an error against the number that is asked for; 0: none.
func wantErr(t *testing.T, what string, err error, want api.Errno) {
	t.Helper()
	if !is(err, want) {
		t.Fatalf("%s: %v, want error %d", what, err, want)
	}
}

// same tells whether two states are the same one; nil is the empty list.
func same(a, b state.State) bool {
	return a.Number == b.Number && a.Has == b.Has && slices.Equal(a.Pays, b.Pays) && slices.EqualFunc(a.Holds, b.Holds, func(x, y state.Hold) bool {
		return x.ID == y.ID && x.Amount == y.Amount && slices.Equal(x.Keys, y.Keys)
	})
}

// sameMsg tells whether two messages are the same one, in all their fields.
func sameMsg(a, b wire.Msg) bool {
	return a.Kind == b.Kind && a.Number == b.Number && sameOp(a.Op, b.Op) && a.Lock == b.Lock && bytes.Equal(a.Secret, b.Secret)
}

// sameOp tells whether the same is done.
func sameOp(a, b wire.Op) bool {
	return a.Kind == b.Kind && a.Amount == b.Amount && a.ID == b.ID && a.Pay == b.Pay && bytes.Equal(a.Secret, b.Secret)
}

// tell is a message as a short text.
func tell(m wire.Msg) string {
	secret := fmt.Sprintf("%x", m.Secret[:min(4, len(m.Secret))])
	return fmt.Sprintf("{kind %d, number %d, op %d %d %d %d, lock %x, secret %s of %d}", m.Kind, m.Number, m.Op.Kind, m.Op.Amount, m.Op.ID, m.Op.Pay, m.Lock[:3], secret, len(m.Secret))
}

// laidUint is a number as layer 1's chapter lays it, written out here.
func laidUint(n uint64) string {
	var b []byte
	for ; n > 0; n >>= 8 {
		b = append([]byte{byte(n)}, b...)
	}
	return string(append([]byte{byte(len(b))}, b...))
}

// laidBytes are bytes as layer 1's chapter lays them.
func laidBytes(b []byte) string {
	return strings.ReplaceAll(string(b), "\x00", "\x00\xff") + "\x00\x00"
}

// laidStep is the value of `step`.
func laidStep(step int, o wire.Op, lock api.Hash) string {
	return laidUint(uint64(step)) + laidBytes(wire.EncodeOp(o)) + string(lock[:])
}

// keyOf is the key of something that has a number.
func keyOf(kind string, n int) string { return fmt.Sprintf("%s/%013d", kind, n) }

// secretOf is the secret of a seed and a number, by the chapter's words.
func secretOf(seed string, n int) []byte {
	sum := blake.Sum([]byte(seed + laidUint(uint64(n))))
	return sum[:]
}

// lockOf is its lock.
func lockOf(seed string, n int) api.Hash { return blake.Sum(secretOf(seed, n)) }

// placeholder is the lock by which Propose tries the other side's commitment.
func placeholder() api.Hash { return api.Hash{0: 1} }

// plain is a side by the chapter's words, as lists of all that it ever had: what a Peer, and what lies on its pages, is held against.
type plain struct {
	c       peer.Config
	count   int            // pages of the area
	states  []state.State  // of the numbers from 0 on
	locks   []api.Hash     // the other side's, of the same
	secrets map[int][]byte // the other side's
	step    int
	op      wire.Op
	lock    api.Hash // the other side's next one
	signed  []api.Hash
	dead    api.Errno
}

// begun is a side behind its first Open.
func begun(c peer.Config, count int) plain {
	x := plain{c: c, count: count, states: []state.State{c.First}, locks: []api.Hash{c.Other}, secrets: map[int][]byte{}}
	x.open()
	return x
}

// n is the side's number.
func (x plain) n() int { return len(x.states) - 1 }

// now is its state.
func (x plain) now() state.State { return x.states[x.n()] }

// clone is a side of its own.
func (x plain) clone() plain {
	x.states = slices.Clone(x.states)
	x.locks = slices.Clone(x.locks)
	x.secrets = maps.Clone(x.secrets)
	x.signed = slices.Clone(x.signed)
	return x
}

// mine is the ID of the side's own commitment to a state.
func (x plain) mine(s state.State) (api.Hash, error) {
	t, err := build.Commit(x.c.Params, s, x.c.Side, lockOf(x.c.Seed, s.Number))
	return tx.ID(t), err
}

// theirs is the ID of the other side's commitment to a state.
func (x plain) theirs(s state.State, lock api.Hash) (api.Hash, error) {
	t, err := build.Commit(x.c.Params, s, 1-x.c.Side, lock)
	return tx.ID(t), err
}

// sign signs the other side's commitment to a state; more than once is as once.
func (x *plain) sign(s state.State, lock api.Hash) {
	id, _ := x.theirs(s, lock)
	if !slices.Contains(x.signed, id) {
		x.signed = append(x.signed, id)
	}
}

// open is what Open does of a side that is kept: it signs what may be signed, and goes on.
func (x *plain) open() {
	x.dead = 0
	x.sign(x.now(), x.locks[x.n()])
	if x.step == agreed {
		x.sign(x.next(), x.lock)
	}
}

// doer is the side that does what is under way.
func (x plain) doer() int {
	if x.step == agreed {
		return 1 - x.c.Side
	}
	return x.c.Side
}

// next is the state that is under way.
func (x plain) next() state.State {
	s, _ := wire.Do(x.now(), x.doer(), x.op)
	return s
}

// kept is what must lie on the pages.
func (x plain) kept() map[string]string {
	m := map[string]string{"now": laidUint(uint64(x.n())), "step": laidStep(x.step, x.op, x.lock)}
	for k, s := range x.states {
		m[keyOf("state", k)] = string(state.Encode(s))
		m[keyOf("lock", k)] = string(x.locks[k][:])
	}
	for k, secret := range x.secrets {
		m[keyOf("secret", k)] = string(secret)
	}
	return m
}

// changes is how many leaves a Set from one side to another takes, and whether each has room on a page.
func changes(from, to plain) (int, bool) {
	n, fit := 0, true
	ahead := from.kept()
	for key, value := range to.kept() {
		if old, there := ahead[key]; !there || old != value {
			n++
			fit = fit && len(laidBytes([]byte(key)))+len(laidBytes([]byte(value))) <= pageSize
		}
	}
	return n, fit
}

// lay is one Set: it goes over to another side, or stops for good.
func (x *plain) lay(to plain) api.Errno {
	n, fit := changes(*x, to)
	switch {
	case !fit:
		x.dead = api.ErrLong
	case n > x.count-1-len(x.kept()):
		x.dead = api.ErrFull
	default:
		*x = to
	}
	return x.dead
}

// under is the side at a step, with what is under way.
func (x plain) under(step int, o wire.Op, lock api.Hash) plain {
	y := x.clone()
	y.step, y.op, y.lock = step, o, lock
	return y
}

// idle is the side with nothing under way.
func (x plain) idle() plain { return x.under(idle, wire.Op{}, api.Hash{}) }

// reached is the side with what was under way done.
func (x plain) reached(step int, lock api.Hash) plain {
	y := x.under(step, wire.Op{}, api.Hash{})
	y.states = append(y.states, x.next())
	y.locks = append(y.locks, lock)
	return y
}

// last is what Resend tells.
func (x plain) last() []wire.Msg {
	n := x.n()
	switch x.step {
	case proposed:
		return []wire.Msg{{Kind: kindPropose, Number: n + 1, Op: x.op, Lock: lockOf(x.c.Seed, n+1)}}
	case agreed:
		return []wire.Msg{{Kind: kindAgree, Number: n + 1, Lock: lockOf(x.c.Seed, n+1)}}
	case committed:
		return []wire.Msg{{Kind: kindCommit, Number: n, Secret: secretOf(x.c.Seed, n-1)}}
	}
	return nil
}

// done is what tells that the side's number is reached.
func (x plain) done() []wire.Msg {
	return []wire.Msg{{Kind: kindDone, Number: x.n(), Secret: secretOf(x.c.Seed, x.n()-1)}}
}

// tries is the error of what a side does, or of either side's commitment to that.
func (x plain) tries(side int, o wire.Op, lock api.Hash) api.Errno {
	s, err := wire.Do(x.now(), side, o)
	if err != nil {
		return errnoOf(err)
	}
	if _, err := x.mine(s); err != nil {
		return errnoOf(err)
	}
	_, err = x.theirs(s, lock)
	return errnoOf(err)
}

// propose is PE2.
func (x *plain) propose(o wire.Op) ([]wire.Msg, api.Errno) {
	if x.dead != 0 {
		return nil, x.dead
	}
	if x.step != idle {
		return nil, api.ErrState
	}
	if no := x.tries(x.c.Side, o, placeholder()); no != 0 {
		return nil, no
	}
	if no := x.lay(x.under(proposed, o, api.Hash{})); no != 0 {
		return nil, no
	}
	return x.last(), 0
}

// hear is PE3. has tells whether the other side's key signed something.
func (x *plain) hear(m wire.Msg, has func(api.Hash) bool) ([]wire.Msg, api.Errno) {
	switch {
	case x.dead != 0:
		return nil, x.dead
	case m.Kind == kindPropose:
		return x.hearPropose(m)
	case m.Kind == kindAgree:
		return x.hearAgree(m, has)
	case m.Kind == kindCommit:
		return x.hearCommit(m, has)
	case m.Kind == kindDone:
		return nil, x.hearDone(m)
	case m.Kind != kindRefuse:
		return nil, api.ErrArg
	case x.step == proposed && m.Number == x.n()+1:
		return nil, x.lay(x.idle())
	}
	return nil, 0
}

func (x *plain) hearPropose(m wire.Msg) ([]wire.Msg, api.Errno) {
	if m.Number <= x.n() {
		return nil, api.ErrOld
	}
	if m.Number != x.n()+1 {
		return nil, api.ErrState
	}
	if x.step == agreed && sameOp(m.Op, x.op) && m.Lock == x.lock {
		return x.last(), 0
	}
	if x.step == agreed || x.step == committed || x.step == proposed && x.c.Side == 0 {
		return nil, api.ErrState
	}
	if m.Lock == (api.Hash{}) {
		return nil, api.ErrArg
	}
	if x.tries(1-x.c.Side, m.Op, m.Lock) != 0 {
		return []wire.Msg{{Kind: kindRefuse, Number: m.Number}}, 0
	}
	if no := x.lay(x.under(agreed, m.Op, m.Lock)); no != 0 {
		return nil, no
	}
	x.sign(x.next(), x.lock)
	return x.last(), 0
}

func (x *plain) hearAgree(m wire.Msg, has func(api.Hash) bool) ([]wire.Msg, api.Errno) {
	if m.Number == x.n() && x.step == committed {
		return x.last(), 0
	}
	if m.Number != x.n()+1 || x.step != proposed {
		return nil, api.ErrState
	}
	if m.Lock == (api.Hash{}) {
		return nil, api.ErrArg
	}
	if id, _ := x.mine(x.next()); !has(id) {
		return nil, api.ErrSign
	}
	if no := x.lay(x.reached(committed, m.Lock)); no != 0 {
		return nil, no
	}
	x.sign(x.now(), m.Lock)
	return x.last(), 0
}

func (x *plain) hearCommit(m wire.Msg, has func(api.Hash) bool) ([]wire.Msg, api.Errno) {
	n := x.n()
	if _, known := x.secrets[n-1]; known && m.Number == n {
		return x.done(), 0
	}
	if m.Number != n+1 || x.step != agreed {
		return nil, api.ErrState
	}
	if blake.Sum(m.Secret) != x.locks[n] {
		return nil, api.ErrHash
	}
	if id, _ := x.mine(x.next()); !has(id) {
		return nil, api.ErrSign
	}
	y := x.reached(idle, x.lock)
	y.secrets[n] = m.Secret
	if no := x.lay(y); no != 0 {
		return nil, no
	}
	return x.done(), 0
}

func (x *plain) hearDone(m wire.Msg) api.Errno {
	if x.step != committed {
		return 0
	}
	if m.Number != x.n() {
		return api.ErrState
	}
	if blake.Sum(m.Secret) != x.locks[x.n()-1] {
		return api.ErrHash
	}
	y := x.idle()
	y.secrets[x.n()-1] = m.Secret
	return x.lay(y)
}

// area is where a side's pages lie in a store.
func area(p *pages.Store) shelf.Area { return shelf.Area{Count: min(p.Pages()/2, 1024)} }

// keptOn is what lies on the pages of a side.
func keptOn(t *testing.T, what string, p *pages.Store) map[string]string {
	t.Helper()
	k, err := shelf.Open(p, area(p))
	if err != nil {
		t.Fatalf("%s: the pages can't be read: %v", what, err)
	}
	m := map[string]string{}
	for _, key := range k.Keys() {
		m[key], _ = k.Get(key)
	}
	return m
}

// wantKept holds what lies on pages against what is asked for.
func wantKept(t *testing.T, what string, p *pages.Store, want map[string]string) {
	t.Helper()
	got := keptOn(t, what, p)
	for _, key := range slices.Sorted(maps.Keys(want)) {
		if value, there := got[key]; !there || value != want[key] {
			t.Fatalf("%s: %q is %q, %v, want %q", what, key, value, there, want[key])
		}
	}
	for key := range got {
		if _, there := want[key]; !there {
			t.Fatalf("%s: %q is kept, too", what, key)
		}
	}
}

// wantTold holds what was told against what is asked for.
func wantTold(t *testing.T, what string, got, want []wire.Msg) {
	t.Helper()
	if len(got) != len(want) {
		t.Fatalf("%s: told %d messages, want %d", what, len(got), len(want))
	}
	for i, m := range got {
		if !sameMsg(m, want[i]) {
			t.Fatalf("%s: told %s, want %s", what, tell(m), tell(want[i]))
		}
	}
}

// site is a Peer beside the plain side. The other side is whoever the test makes of it.
type site struct {
	t     *testing.T
	store *pages.Store
	book  *oath.Book
	peer  *peer.Peer
	plain plain
	seed  string     // the other side's
	gave  []api.Hash // what the other side has signed
}

// newStore is a store of so many pages.
func newStore(t *testing.T, n int) *pages.Store {
	t.Helper()
	p, err := pages.New(n)
	if err != nil {
		t.Fatal(err)
	}
	return p
}

// newSite is a side on empty pages.
func newSite(t *testing.T, c peer.Config, count int) *site {
	t.Helper()
	p := newStore(t, count)
	s := &site{t: t, store: p, book: oath.New(), plain: begun(c, area(p).Count), seed: otherSeed}
	s.open("new")
	return s
}

// open opens the side anew, on what is kept.
func (s *site) open(what string) {
	s.t.Helper()
	p, err := peer.Open(s.store, s.plain.c, s.book)
	wantErr(s.t, what+": Open", err, 0)
	s.peer = p
	s.plain.open()
	s.check(what + ", opened")
}

// key is the side's key.
func (s *site) key() int { return s.plain.c.Params.Keys[s.plain.c.Side] }

// otherKey is the other side's.
func (s *site) otherKey() int { return s.plain.c.Params.Keys[1-s.plain.c.Side] }

// has tells whether the other side has signed something.
func (s *site) has(id api.Hash) bool { return s.book.Has(s.otherKey(), id) }

// give is the other side's signature of the side's own commitment to a state.
func (s *site) give(x state.State) {
	s.t.Helper()
	id, err := s.plain.mine(x)
	wantErr(s.t, "a commitment that the other side signs", err, 0)
	if !s.has(id) {
		s.gave = append(s.gave, id)
	}
	wantErr(s.t, "the other side's signature", s.book.Sign(s.otherKey(), id), 0)
}

// propose proposes, and holds all against the plain side.
func (s *site) propose(what string, o wire.Op) {
	s.t.Helper()
	want, no := s.plain.propose(o)
	got, err := s.peer.Propose(o)
	wantErr(s.t, what, err, no)
	wantTold(s.t, what, got, want)
	s.check(what)
}

// hear hears a message, and holds all against the plain side.
func (s *site) hear(what string, m wire.Msg) {
	s.t.Helper()
	what = fmt.Sprint(what, ": ", tell(m))
	want, no := s.plain.hear(m, s.has)
	got, err := s.peer.Handle(m)
	wantErr(s.t, what, err, no)
	wantTold(s.t, what, got, want)
	s.check(what)
}

// check holds all that can be seen against the plain side.
func (s *site) check(what string) {
	s.t.Helper()
	s.checkSigned(what)
	s.checkState(what)
	for _, k := range []int{math.MinInt, -2, -1, 0, 1, s.plain.n() - 1, s.plain.n(), s.plain.n() + 1, s.plain.n() + 2, maxHeight, 1e13, math.MaxInt} {
		s.checkNumber(what, k)
	}
	if !s.store.Down() {
		wantKept(s.t, what, s.store, s.plain.kept())
		if n := s.store.Loose(); n != 0 && s.plain.dead == 0 {
			s.t.Fatalf("%s: %d writes are loose", what, n)
		}
	}
}

// checkSigned holds the book against what the side must have signed, and the other side has.
func (s *site) checkSigned(what string) {
	s.t.Helper()
	for who := range 16 {
		var want []api.Hash
		switch who {
		case s.key():
			want = s.plain.signed
		case s.otherKey():
			want = s.gave
		}
		if got := s.book.Sums(who); !slices.Equal(got, want) {
			s.t.Fatalf("%s: party %d has signed %x, want %x", what, who, got, want)
		}
	}
}

// checkState holds what hangs on no number against the plain side.
func (s *site) checkState(what string) {
	s.t.Helper()
	x := s.plain
	wantErr(s.t, what+": Dead", s.peer.Dead(), x.dead)
	if got := s.peer.State(); !same(got, x.now()) {
		s.t.Fatalf("%s: State: %v, want %v", what, got, x.now())
	}
	if got := s.peer.Busy(); got != (x.step != idle) {
		s.t.Fatalf("%s: Busy: %v, when %s", what, got, stepNames[x.step])
	}
	told, err := s.peer.Resend()
	wantErr(s.t, what+": Resend", err, x.dead)
	mine, err := s.peer.Mine()
	wantErr(s.t, what+": Mine", err, x.dead)
	next, lock, err := s.peer.Agreed()
	if x.dead != 0 {
		wantErr(s.t, what+": Agreed", err, x.dead)
		s.zero(what, len(told) == 0, tx.ID(mine) == tx.ID(tx.Tx{}), same(next, state.State{}), lock == api.Hash{})
		return
	}
	wantTold(s.t, what+": Resend", told, x.last())
	if id, _ := x.mine(x.now()); tx.ID(mine) != id {
		s.t.Fatalf("%s: Mine: %v", what, mine)
	}
	if x.step != agreed {
		wantErr(s.t, what+": Agreed", err, api.ErrNone)
		s.zero(what, same(next, state.State{}), lock == api.Hash{})
		return
	}
	wantErr(s.t, what+": Agreed", err, 0)
	if !same(next, x.next()) || lock != x.lock {
		s.t.Fatalf("%s: Agreed: %v, %x, want %v, %x", what, next, lock, x.next(), x.lock)
	}
}

// zero tells of answers beside an error that are not zero.
func (s *site) zero(what string, zeros ...bool) {
	s.t.Helper()
	for i, ok := range zeros {
		if !ok {
			s.t.Fatalf("%s: answer %d beside an error is not zero", what, i)
		}
	}
}

// checkNumber holds what is told of a number against the plain side.
func (s *site) checkNumber(what string, k int) {
	s.t.Helper()
	x := s.plain
	old, err := s.peer.Old(k)
	lock, err2 := s.peer.Theirs(k)
	secret, err3 := s.peer.Known(k)
	no, no3 := x.dead, x.dead
	want, wantLock, wantSecret := state.State{}, api.Hash{}, []byte(nil)
	if x.dead == 0 {
		no, no3 = api.ErrNone, api.ErrNone
		if k >= 0 && k <= x.n() {
			no, want, wantLock = 0, x.states[k], x.locks[k]
		}
		if known, there := x.secrets[k]; there {
			no3, wantSecret = 0, known
		}
	}
	wantErr(s.t, fmt.Sprint(what, ": Old of ", k), err, no)
	wantErr(s.t, fmt.Sprint(what, ": Theirs of ", k), err2, no)
	wantErr(s.t, fmt.Sprint(what, ": Known of ", k), err3, no3)
	if !same(old, want) || lock != wantLock || !bytes.Equal(secret, wantSecret) {
		s.t.Fatalf("%s: of %d: %v, %x, %x, want %v, %x, %x", what, k, old, lock, secret, want, wantLock, wantSecret)
	}
}
