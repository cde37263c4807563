package oath_test

import (
	"errors"
	"math"
	"slices"
	"testing"

	"bayou/api"
	"bayou/oath"
)

// sumOf is one sum of many: noughts, sums unlike in the first byte alone or in the last one alone, and sums of equal bytes.
func sumOf(n byte) api.Hash {
	var h api.Hash
	switch n % 3 {
	case 0:
		h[0] = n
	case 1:
		h[len(h)-1] = n
	default:
		for i := range h {
			h[i] = n
		}
	}
	return h
}

// sums are all that sumOf makes, so that none is there by chance.
func sums() []api.Hash {
	var l []api.Hash
	for n := range 256 {
		l = append(l, sumOf(byte(n)))
	}
	return l
}

// strangers are numbers about the parties' edges, and far from them, that are no party's; some have a party's low bits.
func strangers() []int {
	l := []int{255, 256, 1 << 16, 1<<32 + 1, math.MaxInt, math.MinInt, math.MinInt + 1}
	for n := range api.MaxParty {
		l = append(l, -1-n, api.MaxParty+n)
	}
	return l
}

// everybody are all parties, ascending.
func everybody() []int {
	var l []int
	for who := range api.MaxParty {
		l = append(l, who)
	}
	return l
}

// wantErr holds an error against the number that is asked for; 0: none.
func wantErr(t *testing.T, what string, err error, want api.Errno) {
	t.Helper()
	var got api.Errno
	switch {
	case want == 0 && err != nil:
		t.Errorf("%s: %v, want no error", what, err)
	case want != 0 && (!errors.As(err, &got) || got != want):
		t.Errorf("%s: %v, want %v", what, err, want)
	}
}

// sign has somebody sign, which must be.
func sign(t *testing.T, b *oath.Book, who int, sum api.Hash) {
	t.Helper()
	if err := b.Sign(who, sum); err != nil {
		t.Fatalf("Sign of %d: %v", who, err)
	}
}

// pair is somebody's signature of a sum.
type pair struct {
	who int
	sum api.Hash
}

// plain is a book as a list of who signed what, in the order of the first time: what a Book is held against.
type plain []pair

// add is the list with a signature more, if it is new, and its party one.
func (p plain) add(who int, sum api.Hash) plain {
	if who < 0 || who >= api.MaxParty || slices.Contains(p, pair{who, sum}) {
		return p
	}
	return append(p, pair{who, sum})
}

// signers are who signed a sum, ascending.
func (p plain) signers(sum api.Hash) []int {
	var l []int
	for _, s := range p {
		if s.sum == sum {
			l = append(l, s.who)
		}
	}
	slices.Sort(l)
	return l
}

// signed are the sums that somebody signed, in order.
func (p plain) signed(who int) []api.Hash {
	var l []api.Hash
	for _, s := range p {
		if s.who == who {
			l = append(l, s.sum)
		}
	}
	return l
}

// check holds all that a book tells against the list: also what was not given.
func (p plain) check(t *testing.T, what string, b *oath.Book) {
	t.Helper()
	if got := b.Len(); got != len(p) {
		t.Errorf("%s: Len: %d, want %d", what, got, len(p))
	}
	for _, sum := range sums() {
		signers := p.signers(sum)
		if got := b.Who(sum); !slices.Equal(got, signers) {
			t.Errorf("%s: Who of %x: %v, want %v", what, sum, got, signers)
		}
		if !b.All(signers, sum) || !b.All(nil, sum) {
			t.Errorf("%s: All of those that signed %x, or of none: false", what, sum)
		}
		for _, who := range slices.Concat(everybody(), strangers()) {
			has := slices.Contains(signers, who)
			if got := b.Has(who, sum); got != has {
				t.Errorf("%s: Has of %d, %x: %v, want %v", what, who, sum, got, has)
			}
			if got := b.All(append(slices.Clone(signers), who), sum); got != has {
				t.Errorf("%s: All of those that signed %x, and of %d: %v, want %v", what, sum, who, got, has)
			}
		}
	}
	for _, who := range slices.Concat(everybody(), strangers()) {
		if got := b.Sums(who); !slices.Equal(got, p.signed(who)) {
			t.Errorf("%s: Sums of %d: %x, want %x", what, who, got, p.signed(who))
		}
	}
}

// some is a book, and the list of its signatures: parties at the edges and between, sums of one party, of two, and of all.
func some(t *testing.T) (*oath.Book, plain) {
	t.Helper()
	b, p := oath.New(), plain(nil)
	give := func(who int, n byte) {
		sign(t, b, who, sumOf(n))
		p = p.add(who, sumOf(n))
	}
	for _, who := range []int{9, 0, 15, 4, 1, 3, 2, 8, 7, 6, 5, 14, 12, 13, 10, 11} {
		give(who, 7)
	}
	for _, n := range []byte{200, 1, 0, 255, 3, 2} {
		give(15, n)
	}
	give(0, 2)
	give(0, 200)
	return b, p
}

// TestNew: OA2, nobody has signed anything in a new book.
func TestNew(t *testing.T) {
	b := oath.New()
	if b == nil {
		t.Fatal("New: nil")
	}
	plain(nil).check(t, "new", b)
	sign(t, b, 0, sumOf(1))
	plain(nil).check(t, "another new one", oath.New())
}

// TestExample: OA1, the example of the chapter.
func TestExample(t *testing.T) {
	b, s := oath.New(), sumOf(9)
	sign(t, b, 1, s)
	if !b.Has(1, s) || b.Has(2, s) || !slices.Equal(b.Who(s), []int{1}) {
		t.Errorf("Has of 1 and 2, Who: %v, %v, %v", b.Has(1, s), b.Has(2, s), b.Who(s))
	}
}

// TestSign: OA1 and OA2, each party's signature is there, and no other.
func TestSign(t *testing.T) {
	for _, who := range everybody() {
		for _, n := range []byte{0, 1, 2, 253, 254, 255} {
			b := oath.New()
			sign(t, b, who, sumOf(n))
			plain{{who, sumOf(n)}}.check(t, "one signature", b)
		}
	}
	b, p := some(t)
	p.check(t, "some signatures", b)
}

// TestSignTwice: OA1, who signs more than once has signed once, at the first time's place.
func TestSignTwice(t *testing.T) {
	b, p := some(t)
	for i := range p {
		sign(t, b, p[len(p)-1-i].who, p[len(p)-1-i].sum)
		sign(t, b, p[i].who, p[i].sum)
	}
	p.check(t, "all again", b)
	sign(t, b, 15, sumOf(9))
	sign(t, b, 15, sumOf(200))
	p.add(15, sumOf(9)).check(t, "one more, and an old one behind it", b)
}

// TestSignStranger: OA1, who is no party can't sign, also what a party has signed; nothing changes.
func TestSignStranger(t *testing.T) {
	b, p := some(t)
	for _, who := range strangers() {
		for _, n := range []byte{0, 7, 8} {
			wantErr(t, "Sign of a stranger", b.Sign(who, sumOf(n)), api.ErrParty)
			wantErr(t, "Sign of a stranger in a new book", oath.New().Sign(who, sumOf(n)), api.ErrParty)
		}
	}
	p.check(t, "behind strangers", b)
	sign(t, b, 3, sumOf(8))
	p.add(3, sumOf(8)).check(t, "a party behind strangers", b)
}

// TestAll: OA1, each of them must have signed, wherever in the list the one that has not stands; of none it is true.
func TestAll(t *testing.T) {
	b, s := oath.New(), sumOf(5)
	for _, who := range []int{0, 3, 15} {
		sign(t, b, who, s)
	}
	sign(t, b, 4, sumOf(6))
	for _, c := range []struct {
		who  []int
		want bool
	}{
		{nil, true},
		{[]int{}, true},
		{[]int{0}, true},
		{[]int{15, 0, 3}, true},
		{[]int{3, 3, 3}, true},
		{[]int{4}, false},
		{[]int{4, 0, 3, 15}, false},
		{[]int{0, 4, 3, 15}, false},
		{[]int{0, 3, 15, 4}, false},
		{[]int{1, 2}, false},
		{[]int{0, -1}, false},
		{[]int{16, 0}, false},
		{everybody(), false},
	} {
		if got := b.All(c.who, s); got != c.want {
			t.Errorf("All of %v: %v, want %v", c.who, got, c.want)
		}
		if none := len(c.who) == 0; b.All(c.who, sumOf(7)) != none {
			t.Errorf("All of %v of a sum that nobody signed: %v", c.who, !none)
		}
	}
	for _, who := range everybody() {
		sign(t, b, who, s)
	}
	if !b.All(everybody(), s) || b.All(append(everybody(), 16), s) {
		t.Error("All of everybody, or of everybody and a stranger")
	}
}

// TestWhoAscending: OA1, whatever the order in which they signed.
func TestWhoAscending(t *testing.T) {
	for first := range api.MaxParty {
		b, s := oath.New(), sumOf(byte(first))
		for i := range api.MaxParty {
			sign(t, b, (first+5*i)%api.MaxParty, s)
		}
		if got := b.Who(s); !slices.Equal(got, everybody()) {
			t.Errorf("Who, where %d signed first: %v", first, got)
		}
	}
}

// TestSumsOrder: OA1, the order of the first time, of each party its own, over enough sums that a map's order would be another.
func TestSumsOrder(t *testing.T) {
	b := oath.New()
	var up, down []api.Hash
	for i := range 256 {
		up = append(up, sumOf(byte(i)))
		down = append(down, sumOf(byte(255-i)))
		sign(t, b, 0, up[i])
		sign(t, b, 15, down[i])
		sign(t, b, 15, down[i/2])
	}
	for who, want := range map[int][]api.Hash{0: up, 15: down, 1: nil, 14: nil} {
		if got := b.Sums(who); !slices.Equal(got, want) {
			t.Errorf("Sums of %d: %d of them, not in their order", who, len(got))
		}
	}
	if got := b.Len(); got != 512 {
		t.Errorf("Len: %d, want 512", got)
	}
}

// TestStays: OA2, a signature stays, whatever is done behind it; none is there before it was given.
func TestStays(t *testing.T) {
	b, p := oath.New(), plain(nil)
	for i := range 120 {
		who, sum := i*7%(api.MaxParty+2)-1, sumOf(byte(i*i%50))
		err := b.Sign(who, sum)
		if who < 0 || who >= api.MaxParty {
			wantErr(t, "Sign of a stranger", err, api.ErrParty)
		} else {
			wantErr(t, "Sign of a party", err, 0)
		}
		p = p.add(who, sum)
		p.check(t, "step by step", b)
	}
}

// TestClone: OA1, a clone has the same signatures, and either goes its own way, also where one party's list grows in both.
func TestClone(t *testing.T) {
	for more := range 9 {
		b, p := some(t)
		for n := range more {
			sign(t, b, 15, sumOf(byte(100+n)))
			p = p.add(15, sumOf(byte(100+n)))
		}
		c := b.Clone()
		if c == nil || c == b {
			t.Fatal("Clone: nil, or the book itself")
		}
		p.check(t, "clone", c)
		sign(t, b, 15, sumOf(50))
		sign(t, b, 2, sumOf(51))
		p.check(t, "clone of a book that goes on", c)
		sign(t, c, 15, sumOf(60))
		sign(t, c, 3, sumOf(50))
		base := slices.Clip(p)
		base.add(15, sumOf(50)).add(2, sumOf(51)).check(t, "book of a clone that goes on", b)
		base.add(15, sumOf(60)).add(3, sumOf(50)).check(t, "clone that goes on", c)
		wantErr(t, "Sign of a stranger in a clone", c.Sign(16, sumOf(1)), api.ErrParty)
		d := c.Clone()
		sign(t, c, 4, sumOf(61))
		base.add(15, sumOf(60)).add(3, sumOf(50)).check(t, "clone of a clone", d)
	}
	e := oath.New()
	c := e.Clone()
	sign(t, c, 0, sumOf(1))
	plain(nil).check(t, "new book of a clone that goes on", e)
	plain{{0, sumOf(1)}}.check(t, "clone of a new book", c)
}

// TestNil: OA1, of a nil book Sign is ErrArg, also of a stranger; nobody has signed anything, and All of none is true.
func TestNil(t *testing.T) {
	var b *oath.Book
	for _, who := range slices.Concat(everybody(), strangers()) {
		wantErr(t, "Sign in a nil book", b.Sign(who, sumOf(1)), api.ErrArg)
	}
	plain(nil).check(t, "nil book", b)
	c := b.Clone()
	plain(nil).check(t, "clone of a nil book", c)
	sign(t, c, 1, sumOf(1))
	plain{{1, sumOf(1)}}.check(t, "clone of a nil book that goes on", c)
	plain(nil).check(t, "nil book of a clone that goes on", b)
}

// TestMemory: rule 3, who changes a list that was answered, or its spare room, changes neither the book nor another answer, and a list that is handed in stays.
func TestMemory(t *testing.T) {
	b, p := some(t)
	sums, who := b.Sums(15), b.Who(sumOf(7))
	sums2, who2 := b.Sums(15), b.Who(sumOf(7))
	for i := range sums {
		sums[i] = sumOf(90)
	}
	for i := range who {
		who[i] = 90
	}
	_, _ = append(sums, sumOf(91)), append(who, 91)
	p.check(t, "lists overwritten", b)
	sign(t, b, 15, sumOf(92))
	p = p.add(15, sumOf(92))
	_, _ = append(sums, sumOf(93)), append(sums2, sumOf(94))
	p.check(t, "spare room overwritten", b)
	if !slices.Equal(sums2, p.signed(15)[:len(sums2)]) || !slices.Equal(who2, everybody()) {
		t.Error("an answer changed with another one, or with the book")
	}
	in := []int{3, 1, 1, -1, 99}
	b.All(in, sumOf(7))
	if !slices.Equal(in, []int{3, 1, 1, -1, 99}) {
		t.Errorf("All changed what was handed in: %v", in)
	}
}

// TestAskingChangesNothing: rule 4 and OA2, what is asked, of whomever, leaves no signature.
func TestAskingChangesNothing(t *testing.T) {
	b, p := some(t)
	p.check(t, "asked once", b)
	p.check(t, "asked again", b)
	c, _ := some(t)
	c.Clone()
	p.check(t, "cloned", c)
}

// FuzzBook: OA1 and OA2, books that are signed in and cloned in any order are the plain lists. Two bytes are a step: of the book, by the first one's highest bit, the low five less 8 sign the second one's sum; or, where the next bit is set, the book is replaced by the other one's clone.
func FuzzBook(f *testing.F) {
	f.Add([]byte{8, 1, 9, 1, 136, 1, 64, 0, 23, 2, 24, 3, 7, 3, 192, 0, 8, 9, 136, 10})
	f.Add([]byte{31, 0, 0, 0, 8, 0, 8, 0, 64, 1, 8, 2, 136, 3, 192, 4, 12, 5})
	f.Fuzz(func(t *testing.T, steps []byte) {
		books := [2]*oath.Book{oath.New(), oath.New()}
		var lists [2]plain
		for ; len(steps) >= 2; steps = steps[2:] {
			at := int(steps[0] >> 7)
			if steps[0]&64 != 0 {
				books[at], lists[at] = books[1-at].Clone(), slices.Clone(lists[1-at])
				continue
			}
			who, sum, want := int(steps[0]&31)-8, sumOf(steps[1]), api.Errno(0)
			if who < 0 || who >= api.MaxParty {
				want = api.ErrParty
			}
			wantErr(t, "Sign", books[at].Sign(who, sum), want)
			lists[at] = lists[at].add(who, sum)
		}
		lists[0].check(t, "the first book", books[0])
		lists[1].check(t, "the other book", books[1])
	})
}
