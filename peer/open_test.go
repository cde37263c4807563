package peer_test

import (
	"fmt"
	"maps"
	"slices"
	"testing"

	"bayou/api"
	"bayou/blake"
	"bayou/oath"
	"bayou/pages"
	"bayou/peer"
	"bayou/shelf"
	"bayou/state"
	"bayou/wire"
)

// siteStore is a Peer with what it stands on.
type siteStore struct {
	c     peer.Config
	store *pages.Store
	peer  *peer.Peer
}

// openStore opens a side on empty pages.
func openStore(t *testing.T, c peer.Config, b *oath.Book) *siteStore {
	t.Helper()
	s := &siteStore{c: c, store: newStore(t, 80)}
	var err error
	s.peer, err = peer.Open(s.store, c, b)
	wantErr(t, "Open", err, 0)
	return s
}

// begin is all that Open is handed.
type begin struct {
	store *pages.Store
	c     peer.Config
	book  *oath.Book
}

// goodBegin is one that a side can begin by.
func goodBegin(t *testing.T, side int) *begin {
	return &begin{newStore(t, 20), config(side), oath.New()}
}

// fault is something that Open must not let by.
type fault struct {
	name string
	no   api.Errno
	do   func(t *testing.T, b *begin)
}

// faults are all of them, in the order of PE1; those of build.Check in its own.
func faults() []fault {
	onConfig := func(name string, no api.Errno, do func(c *peer.Config)) fault {
		return fault{name, no, func(t *testing.T, b *begin) { do(&b.c) }}
	}
	return []fault{
		{"a nil store", api.ErrArg, func(t *testing.T, b *begin) { b.store = nil }},
		{"a nil book", api.ErrArg, func(t *testing.T, b *begin) { b.book = nil }},
		onConfig("Other of noughts", api.ErrArg, func(c *peer.Config) { c.Other = api.Hash{} }),
		onConfig("a Seed of 65", api.ErrArg, func(c *peer.Config) { c.Seed = long(65) }),
		onConfig("a long Seed", api.ErrArg, func(c *peer.Config) { c.Seed = long(1 << 16) }),
		onConfig("Side -1", api.ErrParty, func(c *peer.Config) { c.Side = -1 }),
		onConfig("Side 2", api.ErrParty, func(c *peer.Config) { c.Side = 2 }),
		onConfig("a party as Side", api.ErrParty, func(c *peer.Config) { c.Side = 9 }),
		onConfig("a state that can't be", api.ErrArg, func(c *peer.Config) { c.First.Holds = []state.Hold{{ID: 1, Amount: 9, Keys: []int{1}}} }),
		onConfig("a Number below 0", api.ErrArg, func(c *peer.Config) { c.First.Number = -1 }),
		onConfig("Delay 0", api.ErrArg, func(c *peer.Config) { c.Params.Delay = 0 }),
		onConfig("a long Delay", api.ErrArg, func(c *peer.Config) { c.Params.Delay = 1<<16 + 1 }),
		onConfig("Fee -1", api.ErrArg, func(c *peer.Config) { c.Params.Fee = -1 }),
		onConfig("a key that is none", api.ErrParty, func(c *peer.Config) { c.Params.Keys[1] = 16 }),
		onConfig("one key", api.ErrParty, func(c *peer.Config) { c.Params.Keys = [2]int{4, 4} }),
		onConfig("another Amount", api.ErrFunds, func(c *peer.Config) { c.Params.Amount++ }),
		onConfig("a great Fee", api.ErrFee, func(c *peer.Config) { c.Params.Fee = 501 }),
		onConfig("a Number", api.ErrArg, func(c *peer.Config) { c.First.Number = 1 }),
		onConfig("the greatest Number", api.ErrArg, func(c *peer.Config) { c.First.Number = maxHeight }),
		onConfig("no output", api.ErrRange, func(c *peer.Config) {
			c.First.Has, c.First.Pays, c.First.Holds, c.Params.Amount, c.Params.Fee = [2]int{14, 9}, nil, nil, 23, 5
		}),
		onConfig("an input that can't be", api.ErrRange, func(c *peer.Config) { c.Params.Point.N = 64 }),
		{"3 pages", api.ErrArg, func(t *testing.T, b *begin) { b.store = newStore(t, 3) }},
		{"a store that has crashed", api.ErrDown, func(t *testing.T, b *begin) {
			if b.store != nil {
				wantErr(t, "Arm", b.store.Arm(0), 0)
				b.store.Sync()
			}
		}},
		{"a root page that is none", api.ErrHalt, func(t *testing.T, b *begin) {
			if b.store != nil && !b.store.Down() {
				wantErr(t, "Write", b.store.Write(0, []byte("x")), 0)
				wantErr(t, "Sync", b.store.Sync(), 0)
			}
		}},
		{"something else is kept", api.ErrHalt, func(t *testing.T, b *begin) {
			if b.store != nil && !b.store.Down() {
				if k, err := shelf.Open(b.store, area(b.store)); err == nil {
					wantErr(t, "Set", k.Set([]shelf.Change{{Key: "x", Value: "1"}}), 0)
				}
			}
		}},
		{"8 pages", api.ErrFull, func(t *testing.T, b *begin) {
			if b.store != nil && b.store.Pages() > 8 && len(keyed(b.store)) == 0 && !b.store.Down() {
				b.store = newStore(t, 8)
			}
		}},
	}
}

// keyed are the pages of a store that are not empty.
func keyed(p *pages.Store) []int {
	var l []int
	for i := range p.Pages() {
		if b, err := p.Read(i); err == nil && len(b) > 0 {
			l = append(l, i)
		}
	}
	return l
}

// PE1: each error alone, and each two at once, of which the one that the rule tells first is answered; nothing is laid down, and nothing signed.
func TestOpenErrors(t *testing.T) {
	l := faults()
	for side := range 2 {
		for i, f := range l {
			for j := i; j < len(l); j++ {
				b := goodBegin(t, side)
				l[j].do(t, b)
				f.do(t, b)
				what := f.name + ", " + l[j].name
				no := f.no
				if first, other := f.name, l[j].name; first == "no output" && other == "a great Fee" || first == "another Amount" && other == "no output" {
					continue // the one undoes the other
				}
				wantFault(t, what, b, no)
			}
		}
	}
}

// wantFault holds Open against an error that it must answer.
func wantFault(t *testing.T, what string, b *begin, no api.Errno) {
	t.Helper()
	var pagesAhead []int
	if b.store != nil {
		pagesAhead = keyed(b.store)
	}
	p, err := peer.Open(b.store, b.c, b.book)
	wantErr(t, what, err, no)
	if p != nil {
		t.Errorf("%s: a side beside the error", what)
	}
	if b.book.Len() != 0 {
		t.Errorf("%s: something is signed", what)
	}
	if b.store != nil && (b.store.Loose() != 0 || !slices.Equal(keyed(b.store), pagesAhead)) {
		t.Errorf("%s: something is written", what)
	}
}

// PE1: what is at its bounds is let by.
func TestOpenBounds(t *testing.T) {
	for name, do := range map[string]func(c *peer.Config){
		"no Seed":               func(c *peer.Config) { c.Seed = "" },
		"a Seed of 64":          func(c *peer.Config) { c.Seed = long(64) },
		"Other of a 1":          func(c *peer.Config) { c.Other = api.Hash{31: 1} },
		"Other of its own":      func(c *peer.Config) { c.Other = lockOf(c.Seed, 0) },
		"Delay 1":               func(c *peer.Config) { c.Params.Delay = 1 },
		"the longest Delay":     func(c *peer.Config) { c.Params.Delay = 1 << 16 },
		"Fee 0":                 func(c *peer.Config) { c.Params.Fee = 0 },
		"all of side 0 as Fee":  func(c *peer.Config) { c.Params.Fee = 500 },
		"the last point":        func(c *peer.Config) { c.Params.Point.N = 63 },
		"the greatest keys":     func(c *peer.Config) { c.Params.Keys = [2]int{15, 0} },
		"as little as can be":   func(c *peer.Config) { c.First, c.Params.Amount = state.State{Has: [2]int{15, 0}}, 15 },
		"side 1 has all":        func(c *peer.Config) { c.First, c.Params.Amount = state.State{Has: [2]int{5, 10}}, 15 },
		"as much as there is":   func(c *peer.Config) { c.First, c.Params.Amount = state.State{Has: [2]int{maxAmount, 0}}, maxAmount },
		"empty lists":           func(c *peer.Config) { c.First.Pays, c.First.Holds, c.Params.Amount = []state.Pay{}, nil, 800 },
		"a commitment of holds": func(c *peer.Config) { c.First.Has, c.First.Pays, c.Params.Amount = [2]int{5, 0}, nil, 45 },
	} {
		for side := range 2 {
			c := config(side)
			do(&c)
			s := newSite(t, c, 80)
			s.open(name)
		}
	}
}

// PE1: stores of all sizes: the area is half of the pages, rounded down; what is too small for the begin is full.
func TestOpenSizes(t *testing.T) {
	for n := 1; n <= 24; n++ {
		what := fmt.Sprint(n, " pages")
		p, b := newStore(t, n), oath.New()
		got, err := peer.Open(p, config(0), b)
		switch {
		case n < 4:
			wantErr(t, what, err, api.ErrArg)
		case n < 10:
			wantErr(t, what, err, api.ErrFull)
		default:
			wantErr(t, what, err, 0)
			wantKept(t, what, p, begun(config(0), n/2).kept())
		}
		if (got == nil) != (err != nil) || (b.Len() == 0) != (err != nil) {
			t.Errorf("%s: %v beside %v, %d signatures", what, got, err, b.Len())
		}
		for i := n / 2; i < n; i++ {
			if text, _ := p.Read(i); len(text) > 0 {
				t.Errorf("%s: page %d is written", what, i)
			}
		}
	}
}

// PE1, PE3: sides on stores of all sizes go on till their area is full; that stops them for good, but what is kept can be opened anew. The area has at most 1,024 pages.
func TestFull(t *testing.T) {
	sizes := []int{10, 11, 12, 13, 14, 15, 16, 17, 18, 19, 20, 21, 22, 23, 24, 25, 26, 27, 28, 29, 30, 31, 32, 33}
	for _, n := range sizes {
		for side := range 2 {
			s := newSite(t, config(side), n)
			for s.plain.dead == 0 {
				s.step()
			}
			what := fmt.Sprint(n, " pages, full at ", s.plain.n(), ", ", stepNames[s.plain.step])
			wantErr(t, what, s.peer.Dead(), api.ErrFull)
			s.open(what)
		}
	}
}

// step has a side do one thing: whatever comes next, in turn by both sides.
func (s *site) step() {
	s.t.Helper()
	switch s.plain.step {
	case idle:
		if o := move(1); s.plain.n()%2 == 0 {
			s.propose("a step", o)
		} else {
			s.hear("a step", s.proposeMsg(o))
		}
	case proposed:
		s.give(s.plain.next())
		s.hear("a step", s.agreeMsg())
	case agreed:
		s.give(s.plain.next())
		s.hear("a step", s.commitMsg())
	case committed:
		s.hear("a step", s.doneMsg())
	}
}

// PE1: great stores: the number at which a side is full tells how many pages it has.
func TestFullGreat(t *testing.T) {
	for _, n := range []int{2046, 2047, 2048, 2049, 2050, 4096} {
		p, b := newStore(t, n), oath.New()
		c := config(1)
		q, err := peer.Open(p, c, b)
		wantErr(t, "Open", err, 0)
		x := begun(c, min(n/2, 1024))
		for err == nil {
			m := wire.Msg{Kind: kindPropose, Number: x.n() + 1, Op: move(1), Lock: lockOf(otherSeed, x.n()+1)}
			if x.step == agreed {
				m = wire.Msg{Kind: kindCommit, Number: x.n() + 1, Secret: secretOf(otherSeed, x.n())}
				id, _ := x.mine(x.next())
				wantErr(t, "Sign", b.Sign(x.c.Params.Keys[0], id), 0)
			}
			_, no := x.hear(m, func(api.Hash) bool { return true })
			_, err = q.Handle(m)
			wantErr(t, fmt.Sprint(n, " pages, at ", x.n(), ", ", stepNames[x.step]), err, no)
		}
		wantErr(t, "at last", err, api.ErrFull)
		wantKept(t, fmt.Sprint(n, " pages"), p, x.kept())
		if free := min(n/2, 1024) - 1 - len(x.kept()); free >= 5 {
			t.Errorf("%d pages: full with %d free", n, free)
		}
	}
}

// PE1: a side that was left at any place is there again, and what may be signed is signed, and no more; more than once is as once.
func TestReopen(t *testing.T) {
	for _, c := range scenes() {
		s := at(t, c)
		s.open(c.String())
		s.open(c.String() + " again")
		s.book, s.gave = oath.New(), nil
		s.plain.signed = nil
		s.open(c.String() + " with an empty book")
		want := 1
		if c.step == agreed {
			want = 2
		}
		if n := s.book.Len(); n != want {
			t.Errorf("%s: %d are signed, want %d", c, n, want)
		}
		if now := s.peer.Busy(); now != (c.step != idle) {
			t.Errorf("%s: Busy: %v", c, now)
		}
		switch c.step { // it goes on
		case idle:
			s.propose(c.String(), move(2))
		default:
			s.step()
		}
	}
}

// PE1: behind the first Open what the side began with is passed over, as long as it can be.
func TestReopenOther(t *testing.T) {
	s := at(t, scene{0, 2, agreed})
	c := s.plain.c
	c.Other, c.First = api.Hash{9}, state.State{Has: [2]int{400, 530}}
	p, err := peer.Open(s.store, c, s.book)
	wantErr(t, "Open", err, 0)
	s.peer = p
	s.check("with another begin")
}

// spoilt are ways in which what is kept is not so any more: of each one thing is made otherwise.
func spoilt(s *site) map[string]func(m map[string]string) {
	n := s.plain.n()
	now, at, lock := laidUint(uint64(n)), keyOf("state", n), keyOf("lock", n)
	put := func(key, value string) func(m map[string]string) {
		return func(m map[string]string) { m[key] = value }
	}
	drop := func(key string) func(m map[string]string) { return func(m map[string]string) { delete(m, key) } }
	other := s.plain.now()
	other.Number++
	poor := s.plain.now()
	poor.Has[1]--
	none := string(make([]byte, 32))
	none40 := laidBytes(wire.EncodeOp(wire.Op{}))
	next := s.plain.lock
	return map[string]func(m map[string]string){
		"no now":                         drop("now"),
		"an empty now":                   put("now", ""),
		"now with more":                  put("now", now+"\x00"),
		"now cut":                        put("now", "\x02\x01"),
		"now with a nought":              put("now", "\x01\x00"),
		"now of one more":                put("now", laidUint(uint64(n+1))),
		"now above all":                  put("now", laidUint(maxHeight+1)),
		"now of 2^64 - 1":                put("now", laidUint(1<<64-1)),
		"no state":                       drop(at),
		"an empty state":                 put(at, ""),
		"a state cut":                    func(m map[string]string) { m[at] = m[at][:len(m[at])-1] },
		"a state with more":              func(m map[string]string) { m[at] += "\x00" },
		"a state of another number":      put(at, string(state.Encode(other))),
		"a state of another channel":     put(at, string(state.Encode(poor))),
		"no lock":                        drop(lock),
		"an empty lock":                  put(lock, ""),
		"a lock cut":                     func(m map[string]string) { m[lock] = m[lock][:31] },
		"a lock with more":               func(m map[string]string) { m[lock] += "\x00" },
		"a lock of noughts":              put(lock, none),
		"no step":                        drop("step"),
		"an empty step":                  put("step", ""),
		"a step that is none":            put("step", "\x01\x04"+none40+none),
		"a step that is none, of a move": put("step", laidStep(4, move(20), api.Hash{})),
		"a step that is none, of a lock": put("step", laidStep(4, move(20), api.Hash{1})),
		"a step of 2^64 - 1":             put("step", laidUint(1<<64-1)+none40+none),
		"a step cut":                     func(m map[string]string) { m["step"] = m["step"][:len(m["step"])-1] },
		"a step with more":               func(m map[string]string) { m["step"] += "\x00" },
		"proposed nothing":               put("step", laidStep(proposed, wire.Op{}, api.Hash{})),
		"proposed no bytes":              put("step", "\x01\x01"+laidBytes(nil)+none),
		"proposed bytes cut":             put("step", "\x01\x01"+laidBytes(wire.EncodeOp(move(20))[:20])+none),
		"proposed bytes with more":       put("step", "\x01\x01"+laidBytes(append(wire.EncodeOp(move(20)), 0))+none),
		"proposed what can't be":         put("step", laidStep(proposed, move(10000), api.Hash{})),
		"proposed the other's":           put("step", laidStep(proposed, fail(theirPay(1-s.plain.c.Side)), api.Hash{})),
		"agreed to nothing":              put("step", laidStep(agreed, wire.Op{}, api.Hash{1})),
		"agreed to what can't be":        put("step", laidStep(agreed, move(10000), api.Hash{1})),
		"agreed to no lock":              put("step", laidStep(agreed, move(20), api.Hash{})),
		"agreed to its own":              put("step", laidStep(agreed, add(pay(9, s.plain.c.Side, 20)), next)),
	}
}

// layKept is a store on which a map is kept.
func layKept(t *testing.T, m map[string]string) *pages.Store {
	t.Helper()
	p := newStore(t, 80)
	k, err := shelf.Open(p, area(p))
	wantErr(t, "shelf", err, 0)
	var l []shelf.Change
	for key, value := range m {
		l = append(l, shelf.Change{Key: key, Value: value})
	}
	wantErr(t, "shelf", k.Set(l), 0)
	return p
}

// PE1: what is kept is not so: ErrHalt, nothing is signed, and nothing changed.
func TestOpenHalt(t *testing.T) {
	for _, c := range scenes() {
		s := at(t, c)
		for name, do := range spoilt(s) {
			what := fmt.Sprint(c, ": ", name)
			m := s.plain.kept()
			do(m)
			wantHalt(t, what, s.plain.c, m)
		}
	}
	for _, m := range []map[string]string{
		{"x": ""}, {"": ""}, {"now": "\x00"}, {"step": laidStep(idle, wire.Op{}, api.Hash{})},
		{"now": "\x00", "step": laidStep(idle, wire.Op{}, api.Hash{}), "state/0": string(state.Encode(config(0).First)), "lock/0": string(make([]byte, 32))},
	} {
		wantHalt(t, fmt.Sprint(slices.Sorted(maps.Keys(m))), config(0), m)
	}
	m := at(t, scene{0, 0, idle}).plain.kept()
	m["step"] = laidStep(committed, wire.Op{}, api.Hash{})
	wantHalt(t, "committed to the number 0", config(0), m)
}

// wantHalt holds Open on a map against ErrHalt.
func wantHalt(t *testing.T, what string, c peer.Config, m map[string]string) {
	t.Helper()
	store, book := layKept(t, m), oath.New()
	p, err := peer.Open(store, c, book)
	wantErr(t, what, err, api.ErrHalt)
	if p != nil || book.Len() != 0 {
		t.Errorf("%s: %v beside the error, %d signatures", what, p, book.Len())
	}
	wantKept(t, what, store, m)
}

// PE1: Params that what is kept can't stand on, though the begin can.
func TestOpenHaltParams(t *testing.T) {
	s := newSite(t, config(0), 80)
	s.lead(move(450))
	c := s.plain.c
	c.Params.Fee = 100
	wantHalt(t, "a greater fee", c, s.plain.kept())
	c = s.plain.c
	c.Params.Amount, c.First = 900, state.State{Has: [2]int{500, 400}}
	wantHalt(t, "another amount", c, s.plain.kept())
}

// PE1: a side begins at great numbers, if what is kept is so: of the state n and its lock alone, also where nothing of the numbers ahead is kept.
func TestOpenGreat(t *testing.T) {
	for _, n := range []int{5, 1 << 20, maxHeight - 2, maxHeight - 1, maxHeight} {
		what := fmt.Sprint("at ", n)
		c := config(0)
		now := c.First
		now.Number = n
		lock := lockOf(otherSeed, n)
		m := map[string]string{"now": laidUint(uint64(n)), "step": laidStep(idle, wire.Op{}, api.Hash{}), keyOf("state", n): string(state.Encode(now)), keyOf("lock", n): string(lock[:])}
		book := oath.New()
		p, err := peer.Open(layKept(t, m), c, book)
		wantErr(t, what, err, 0)
		if got := p.State(); !same(got, now) || book.Len() != 1 {
			t.Errorf("%s: State: %v", what, got)
		}
		for _, k := range []int{-1, 0, n - 1, n + 1} {
			_, err := p.Old(k)
			wantErr(t, fmt.Sprint(what, ": Old of ", k), err, api.ErrNone)
			_, err = p.Theirs(k)
			wantErr(t, fmt.Sprint(what, ": Theirs of ", k), err, api.ErrNone)
			_, err = p.Known(k)
			wantErr(t, fmt.Sprint(what, ": Known of ", k), err, api.ErrNone)
		}
		told, err := p.Handle(wire.Msg{Kind: kindPropose, Number: n + 1, Op: move(20), Lock: api.Hash{1}})
		wantErr(t, what, err, 0)
		want := wire.Msg{Kind: kindAgree, Number: n + 1, Lock: lockOf(ownSeed, n+1)}
		if n == maxHeight {
			want = wire.Msg{Kind: kindRefuse, Number: n + 1}
			_, err = p.Propose(move(20))
			wantErr(t, what, err, api.ErrArg)
		}
		wantTold(t, what, told, []wire.Msg{want})
	}
}

// longConfig is a channel with a payment whose secret has so many bytes.
func longConfig(side, n int) (peer.Config, wire.Op) {
	c := config(side)
	secret := []byte(long(n))
	c.First.Pays = []state.Pay{{ID: 6, From: 1 - side, Amount: 90, After: 7, Lock: blake.Sum(secret)}}
	return c, settleBy(6, secret)
}

// PE1 to PE3: what is done may have a longer secret than a message has room for; one that is longer than a page stops the side for good.
func TestLongSecrets(t *testing.T) {
	fits, stops := 0, 0
	for _, n := range []int{0, 63, 64, 65, 255, 256, 300, 3900, 3950, 3952, 3954, 3956, 3958, 3960, 3961, 3962, 3963, 3964, 3965, 3966, 3967, 3968, 3969, 3970, 3980, 4000, 4096, 5000, 1 << 16} {
		for side := range 2 {
			for by := range 2 {
				what := fmt.Sprintf("side %d, a secret of %d, done by %d", side, n, by)
				c, o := longConfig(by, n)
				c.Side = side
				s := newSite(t, c, 80)
				if by == side {
					s.propose(what, o)
				} else {
					s.hear(what, s.proposeMsg(o))
				}
				if s.plain.dead == 0 {
					fits++
					s.open(what)
					s.step()
					s.open(what)
				} else {
					stops++
					wantErr(t, what, s.peer.Dead(), api.ErrLong)
					s.open(what)
				}
			}
		}
	}
	if fits == 0 || stops == 0 {
		t.Errorf("%d fit, %d stop", fits, stops)
	}
}

// PE3: the other side's secrets may be of any length, if they open its lock; one that no page has room for stops the side for good.
func TestLongTheirs(t *testing.T) {
	for _, n := range []int{0, 1, 31, 33, 64, 65, 4000, 4068, 4069, 4070, 4071, 4072, 4073, 4074, 4075, 4096, 1 << 16} {
		for side := range 2 {
			for _, leads := range []bool{false, true} {
				what := fmt.Sprintf("side %d, a secret of %d", side, n)
				secret := []byte(long(n))
				c := config(side)
				c.Other = blake.Sum(secret)
				s := newSite(t, c, 80)
				if leads {
					s.commit(move(20))
					s.hear(what, wire.Msg{Kind: kindDone, Number: 1, Secret: secret})
				} else {
					s.hear(what, s.proposeMsg(move(20)))
					s.give(s.plain.next())
					s.hear(what, wire.Msg{Kind: kindCommit, Number: 1, Secret: secret})
				}
				s.open(what)
			}
		}
	}
}
