package ladder_test

import (
	"bytes"
	"encoding/hex"
	"errors"
	"fmt"
	"math"
	"slices"
	"strings"
	"testing"

	"bayou/api"
	"bayou/blake"
	"bayou/ladder"
)

const top = 1<<40 - 1

// wantErr holds an error against the number that is asked for; 0: none.
func wantErr(t *testing.T, what string, err error, want api.Errno) {
	t.Helper()
	var got api.Errno
	switch {
	case want == 0 && err != nil:
		t.Errorf("%s: %v, want no error", what, err)
	case want != 0 && (!errors.As(err, &got) || got != want):
		t.Errorf("%s: %v, want %v", what, err, want)
	}
}

// roots are some that secrets are made from.
func roots() []api.Hash {
	var rising, full api.Hash
	for i := range rising {
		rising[i], full[i] = byte(i), 255
	}
	return []api.Hash{{}, {1}, rising, full}
}

// digits are a number's 40 bits as text, the highest first.
func digits(number int) string { return fmt.Sprintf("%040b", number) }

// rankOf is how many of a number's lowest bits are 0.
func rankOf(number int) int {
	text := digits(number)
	return len(text) - len(strings.TrimRight(text, "0"))
}

// turned is a secret of which one bit is another one: the bit k % 8 of the byte k / 8.
func turned(h api.Hash, k int) api.Hash {
	one := [8]byte{1, 2, 4, 8, 16, 32, 64, 128}[k%8]
	if h[k/8]&one != 0 {
		h[k/8] -= one
	} else {
		h[k/8] += one
	}
	return h
}

// walk goes from a secret by bits that are told as text, of which the last one is the bit 0.
func walk(h api.Hash, text string) api.Hash {
	for i, c := range text {
		if c == '1' {
			h = turned(h, len(text)-1-i)
			h = blake.Sum(h[:])
		}
	}
	return h
}

// makes tells whether the secret of a number makes that of another one.
func makes(from, to int) bool {
	same := 40 - rankOf(from)
	return digits(from)[:same] == digits(to)[:same]
}

// secretFrom is the secret of a number that another one's makes.
func secretFrom(s ladder.Step, to int) api.Hash {
	return walk(s.Secret, digits(to)[40-rankOf(s.Number):])
}

// numbersOf are the numbers of a ladder's steps, looked for rank by rank; a Next that can't be has none.
func numbersOf(next int) []int {
	var l []int
	for r := 0; r < 40; r++ {
		n := 0
		if next >= 0 {
			n = next - next%(1<<r) // a multiple that is not above next
		}
		for n <= next || rankOf(n) != r {
			n += 1 << r
		}
		if n <= top {
			l = append(l, n)
		}
	}
	if next == -1 {
		l = append(l, 0)
	}
	return l
}

// ladderOf is the ladder of one root, where a number comes next.
func ladderOf(root api.Hash, next int) ladder.Ladder {
	l := ladder.Ladder{Next: next}
	for _, n := range numbersOf(next) {
		l.Steps = append(l.Steps, ladder.Step{Number: n, Secret: walk(root, digits(n))})
	}
	return l
}

// mayBe tells whether a ladder may be, by the words of the chapter.
func mayBe(l ladder.Ladder) bool {
	if l.Next < -1 || l.Next > top {
		return false
	}
	numbers := numbersOf(l.Next)
	if len(numbers) != len(l.Steps) {
		return false
	}
	for i, s := range l.Steps {
		if s.Number != numbers[i] {
			return false
		}
	}
	for i, s := range l.Steps {
		for _, smaller := range l.Steps[:i] {
			if makes(s.Number, smaller.Number) && secretFrom(s, smaller.Number) != smaller.Secret {
				return false
			}
		}
	}
	return true
}

// added is a ladder that may be, with a secret, by the words of the chapter.
func added(l ladder.Ladder, secret api.Hash) (ladder.Ladder, api.Errno) {
	if l.Next == -1 {
		return ladder.Ladder{}, api.ErrState
	}
	next := ladder.Step{Number: l.Next, Secret: secret}
	at := rankOf(l.Next)
	out := []ladder.Step{next}
	for _, s := range l.Steps {
		if rankOf(s.Number) < at && secretFrom(next, s.Number) != s.Secret {
			return ladder.Ladder{}, api.ErrSum
		}
		if rankOf(s.Number) != at {
			out = append(out, s)
		}
	}
	slices.SortFunc(out, func(a, b ladder.Step) int { return rankOf(a.Number) - rankOf(b.Number) })
	return ladder.Ladder{Next: l.Next - 1, Steps: out}, 0
}

// laidUint is a number from 0 on as layer 1's chapter lays it, written out here so that no bytes are held against the package that made them.
func laidUint(n uint64) []byte {
	var b []byte
	for ; n > 0; n /= 256 {
		b = append([]byte{byte(n % 256)}, b...)
	}
	return append([]byte{byte(len(b))}, b...)
}

// laidInt is a number as layer 1's chapter lays an int.
func laidInt(n int) []byte {
	if n >= 0 {
		b := laidUint(uint64(n))
		b[0] += 128
		return b
	}
	b := laidUint(uint64(-1 - n))
	b[0] = 127 - b[0]
	for i := 1; i < len(b); i++ {
		b[i] = 255 - b[i]
	}
	return b
}

// laid is a ladder as bytes, whether it may be or not.
func laid(l ladder.Ladder) []byte {
	b := append(laidInt(l.Next), laidUint(uint64(len(l.Steps)))...)
	for _, s := range l.Steps {
		b = append(append(b, laidUint(uint64(s.Number))...), s.Secret[:]...)
	}
	return b
}

// same tells whether two ladders are the same one.
func same(a, b ladder.Ladder) bool { return a.Next == b.Next && slices.Equal(a.Steps, b.Steps) }

// isZero tells whether there is nothing of a ladder.
func isZero(l ladder.Ladder) bool { return l.Next == 0 && len(l.Steps) == 0 }

// clone is a ladder apart.
func clone(l ladder.Ladder) ladder.Ladder {
	return ladder.Ladder{Next: l.Next, Steps: slices.Clone(l.Steps)}
}

// nexts are numbers that may come next: the ends, those near powers of two, and some between.
func nexts() []int {
	l := []int{-1, 0, 0xA5A5A5A5A5, 0x5A5A5A5A5A, 0x0123456789, 0xFEDCBA9876, 0xF000000000, 0x0FFFFFFFF0, top / 3, top / 7 * 5}
	for k := range 40 {
		for d := -2; d <= 2; d++ {
			l = append(l, 1<<k+d, top-1<<k+d)
		}
	}
	for i := range 70 {
		l = append(l, top-i, i)
	}
	l = slices.DeleteFunc(l, func(n int) bool { return n < -1 || n > top })
	slices.Sort(l)
	return slices.Compact(l)
}

// badLadders are ladders that may not be, by what is wrong of them.
func badLadders() map[string]ladder.Ladder {
	root := roots()[2]
	some := func(next int, change func(l *ladder.Ladder)) ladder.Ladder {
		l := ladderOf(root, next)
		change(&l)
		return l
	}
	return map[string]ladder.Ladder{
		"the zero one":             {},
		"-2":                       {Next: -2},
		"-2 with the steps of -1":  some(-1, func(l *ladder.Ladder) { l.Next = -2 }),
		"the least int":            {Next: math.MinInt},
		"above Top":                {Next: top + 1},
		"the greatest int":         {Next: math.MaxInt},
		"2^41 - 1":                 {Next: 1<<41 - 1},
		"none of Top - 1":          {Next: top - 1},
		"none of -1":               {Next: -1},
		"one at Top":               some(top-1, func(l *ladder.Ladder) { l.Next = top }),
		"one too early":            some(top-2, func(l *ladder.Ladder) { l.Next = top - 1 }),
		"one too late":             some(top-2, func(l *ladder.Ladder) { l.Next = top - 3 }),
		"the first one away":       some(top-8, func(l *ladder.Ladder) { l.Steps = l.Steps[1:] }),
		"the last one away":        some(top-8, func(l *ladder.Ladder) { l.Steps = l.Steps[:3] }),
		"one between away":         some(top-8, func(l *ladder.Ladder) { l.Steps = slices.Delete(l.Steps, 1, 2) }),
		"the last one twice":       some(top-8, func(l *ladder.Ladder) { l.Steps = append(l.Steps, l.Steps[3]) }),
		"the first one twice":      some(top-8, func(l *ladder.Ladder) { l.Steps = slices.Insert(l.Steps, 0, l.Steps[0]) }),
		"falling":                  some(top-8, func(l *ladder.Ladder) { slices.Reverse(l.Steps) }),
		"two changed about":        some(top-3, func(l *ladder.Ladder) { l.Steps[0], l.Steps[1] = l.Steps[1], l.Steps[0] }),
		"an older one":             some(top-3, func(l *ladder.Ladder) { l.Steps[0] = ladder.Step{Number: top, Secret: walk(root, digits(top))} }),
		"one that was not shown":   some(top-4, func(l *ladder.Ladder) { l.Steps[0].Number -= 2 }),
		"a number below 0":         some(top-1, func(l *ladder.Ladder) { l.Steps[0].Number = -1 }),
		"a number above Top":       some(top-1, func(l *ladder.Ladder) { l.Steps[0].Number = top + 2 }),
		"the least number":         some(top-1, func(l *ladder.Ladder) { l.Steps[0].Number = math.MinInt }),
		"0 that was not shown":     some(0, func(l *ladder.Ladder) { l.Steps = append(l.Steps, ladder.Step{Secret: root}) }),
		"0 that is away":           some(-1, func(l *ladder.Ladder) { l.Steps = l.Steps[:40] }),
		"42 steps":                 some(-1, func(l *ladder.Ladder) { l.Steps = append(l.Steps, ladder.Step{Secret: root}) }),
		"another of Top":           some(top-2, func(l *ladder.Ladder) { l.Steps[0].Secret = turned(l.Steps[0].Secret, 0) }),
		"another of Top - 1":       some(top-2, func(l *ladder.Ladder) { l.Steps[1].Secret = turned(l.Steps[1].Secret, 255) }),
		"another root at the end":  some(-1, func(l *ladder.Ladder) { l.Steps[40].Secret = turned(root, 77) }),
		"another one far from 0":   some(-1, func(l *ladder.Ladder) { l.Steps[0].Secret = turned(l.Steps[0].Secret, 100) }),
		"another of rank 39 at -1": some(-1, func(l *ladder.Ladder) { l.Steps[39].Secret = turned(l.Steps[39].Secret, 39) }),
	}
}

// LA1: what is told here was made by another program's BLAKE2s.
func TestMakeTold(t *testing.T) {
	l := roots()
	for _, x := range []struct {
		root, number int
		want         string
	}{
		{0, 0, "0000000000000000000000000000000000000000000000000000000000000000"},
		{0, 1, "e75ff5f563997af83bd49505656cafa4c78fb4079c654c8de764bd079274f9dd"},
		{0, 2, "ade06f4ab46120d16d2b51f137df21e2ca1515672b3b41618bcbf0b071517d3e"},
		{0, 1 << 8, "5e5a301eeb91f5b8a7bf855bcd911183cf2e928143d94a16ca371a8320b8032e"},
		{0, 1 << 39, "9d2ccced360d77940f59c7b6f5b127b4d5ae86ac00f80fc2531eff448c1b53ba"},
		{0, 5, "8799d34f0fa6e1496ef3f4f3f17a24bff59895476e13a10df26709c43b5cc9ee"},
		{0, 0xA5A5A5A5A5, "0247d6e5cb0726b6c9079a147dc52ab7ab4f6954602b311a3c260c8a660d9242"},
		{0, top - 1, "202f761e0c977e4fca6d1ad4c5a147a8eaee6a1f4a17a8f3ae347c236ee1da8a"},
		{0, top, "7176a621bc4b93be42b343f4abf2f69e9abbe2e3dd7ef9387e12396628e9f004"},
		{1, 0, "0100000000000000000000000000000000000000000000000000000000000000"},
		{1, 1, "320b5ea99e653bc2b593db4130d10a4efd3a0b4cc2e1a6672b678d71dfbd33ad"},
		{1, 2, "0859b1e4c1b5f57c2fa23ae2ffa1ed4a149b06a903dff41a59d4eaef3d0b079a"},
		{1, 1 << 39, "119379ad98a20b4933390dcfcdf791d013840e023a063995814d5454d8870145"},
		{1, top, "cac2f32d60edce897fe8c20a529b9f3a77bd3adcbdf1258108acc32336c24a08"},
		{2, 0, "000102030405060708090a0b0c0d0e0f101112131415161718191a1b1c1d1e1f"},
		{2, 5, "6c0937262f3f46de181eef5dcb83813164d0853b64b2fb65e445d8346889c950"},
		{2, 0xA5A5A5A5A5, "9b0327dbe99953b39e964cc1bd2d85c78ce58735c8fb4c977e439043e24806e5"},
		{2, top, "539e576eb15fd682ec2938a6357f95bda442b913de834f10ccadb69cbca72fed"},
	} {
		h, err := ladder.Make(l[x.root], x.number)
		wantErr(t, "Make", err, 0)
		if got := hex.EncodeToString(h[:]); got != x.want {
			t.Errorf("Make of root %d, number %d: %s, want %s", x.root, x.number, got, x.want)
		}
	}
}

// LA1: a number of one bit turns that bit alone: the bit k % 8 of the byte k / 8.
func TestMakeBit(t *testing.T) {
	for _, root := range roots() {
		for k := range 40 {
			want := root
			want[k/8] ^= 1 << (k % 8)
			want = blake.Sum(want[:])
			if h, err := ladder.Make(root, 1<<k); h != want || err != nil {
				t.Errorf("Make of the bit %d: %x, %v, want %x", k, h, err, want)
			}
		}
	}
}

// LA1: of two bits the higher one is turned first.
func TestMakeOrder(t *testing.T) {
	root := roots()[2]
	for i := range 40 {
		for j := range i {
			high, low := turned(root, i), turned(root, j)
			high, low = blake.Sum(high[:]), blake.Sum(low[:])
			want, other := turned(high, j), turned(low, i)
			want, other = blake.Sum(want[:]), blake.Sum(other[:])
			h, err := ladder.Make(root, 1<<i+1<<j)
			if h != want || err != nil {
				t.Errorf("Make of the bits %d and %d: %x, %v, want %x", i, j, h, err, want)
			}
			if h == other {
				t.Errorf("Make of the bits %d and %d has the lower one first", i, j)
			}
		}
	}
}

// LA1: Make of many numbers against the chapter's words.
func TestMakeMany(t *testing.T) {
	for _, root := range roots() {
		for _, n := range nexts() {
			if n < 0 {
				continue
			}
			h, err := ladder.Make(root, n)
			if want := walk(root, digits(n)); h != want || err != nil {
				t.Errorf("Make of %d: %x, %v, want %x", n, h, err, want)
			}
		}
	}
}

// LA1: Make of what is no number.
func TestMakeRange(t *testing.T) {
	for _, n := range []int{-1, -2, top + 1, top + 2, 1 << 41, math.MinInt, math.MaxInt, math.MinInt + 5, -top} {
		h, err := ladder.Make(api.Hash{1}, n)
		wantErr(t, fmt.Sprint("Make of ", n), err, api.ErrRange)
		if h != (api.Hash{}) {
			t.Errorf("Make of %d: %x beside an error", n, h)
		}
	}
}

// LA1: Begin, and the number that comes first.
func TestBegin(t *testing.T) {
	if l := ladder.Begin(); l.Next != top || len(l.Steps) != 0 {
		t.Errorf("Begin: %v", l)
	}
	if ladder.Top != top {
		t.Errorf("Top: %d", ladder.Top)
	}
	wantErr(t, "Check of Begin", ladder.Check(ladder.Begin()), 0)
}

// LA1: the numbers of the steps, where few secrets were shown, against all numbers that were.
func TestNumbersShown(t *testing.T) {
	root := roots()[1]
	for shown := range 300 {
		lowest := map[int]int{}
		for n := top; n > top-shown; n-- {
			lowest[rankOf(n)] = n
		}
		var l ladder.Ladder
		l.Next = top - shown
		for r := range 41 {
			if n, ok := lowest[r]; ok {
				l.Steps = append(l.Steps, ladder.Step{Number: n, Secret: walk(root, digits(n))})
			}
		}
		wantErr(t, fmt.Sprint("Check behind ", shown), ladder.Check(l), 0)
	}
}

// LA1: Check of ladders that may be.
func TestCheckMayBe(t *testing.T) {
	for _, root := range roots() {
		for _, next := range nexts() {
			l := ladderOf(root, next)
			wantErr(t, fmt.Sprint("Check at ", next), ladder.Check(l), 0)
			if r := rankOf(max(next, 0)); next >= 0 && len(l.Steps) < r {
				t.Errorf("at %d there are %d steps, fewer than its rank %d", next, len(l.Steps), r)
			}
		}
	}
	if l := ladderOf(api.Hash{}, -1); len(l.Steps) != 41 {
		t.Errorf("%d steps at -1", len(l.Steps))
	}
}

// LA1: Check of ladders that may not be.
func TestCheckMayNotBe(t *testing.T) {
	for what, l := range badLadders() {
		if mayBe(l) {
			t.Fatalf("%s: it may be", what)
		}
		wantErr(t, "Check: "+what, ladder.Check(l), api.ErrArg)
	}
}

// LA1: secrets that no other one makes, or is made by, may be any; each other one that is changed is found.
func TestCheckEachSecret(t *testing.T) {
	loose, bound := 0, 0
	for _, next := range every(nexts(), 4) {
		l := ladderOf(roots()[3], next)
		for i := range l.Steps {
			c := clone(l)
			c.Steps[i].Secret = turned(c.Steps[i].Secret, (i*37+next+1)%256)
			want := api.Errno(0)
			if !mayBe(c) {
				want = api.ErrArg
				bound++
			} else {
				loose++
			}
			wantErr(t, fmt.Sprintf("Check at %d, another secret of %d", next, c.Steps[i].Number), ladder.Check(c), want)
		}
	}
	if loose < 100 || bound < 100 {
		t.Errorf("%d secrets that stand alone, %d that don't", loose, bound)
	}
}

// LA1: each number of a ladder that is changed is found, as is each Next.
func TestCheckEachNumber(t *testing.T) {
	for _, next := range []int{-1, 0, 1, 6, 1 << 20, 0xA5A5A5A5A5, top - 64, top - 63, top - 5, top - 1, top} {
		l := ladderOf(roots()[2], next)
		for i := range l.Steps {
			for k := range 64 {
				c := clone(l)
				c.Steps[i].Number = int(uint64(c.Steps[i].Number) ^ 1<<k)
				wantErr(t, fmt.Sprintf("Check at %d, the bit %d of step %d", next, k, i), ladder.Check(c), api.ErrArg)
			}
		}
		for _, other := range nexts() {
			c := clone(l)
			c.Next = other
			want := api.ErrArg
			if other == next {
				want = 0
			}
			wantErr(t, fmt.Sprintf("Check of the steps of %d at %d", next, other), ladder.Check(c), want)
		}
	}
}

// LA1 and LA3: many secrets of one root, added one by one, and told again.
func TestAddOneRoot(t *testing.T) {
	most := map[int]int{1: 1, 2: 2, 3: 2, 4: 3, 5: 3, 7: 3, 8: 4, 15: 4, 16: 5, 255: 8, 256: 9, 600: 10}
	for _, root := range roots() {
		l := ladder.Begin()
		for shown := 1; shown <= 600; shown++ {
			secret, err := ladder.Make(root, l.Next)
			wantErr(t, "Make", err, 0)
			l, err = ladder.Add(l, secret)
			wantErr(t, fmt.Sprint("Add of secret ", shown), err, 0)
			if want := ladderOf(root, top-shown); !same(l, want) {
				t.Fatalf("behind %d: %v, want %v", shown, l, want)
			}
			if len(l.Steps) > len(fmt.Sprintf("%b", shown))+1 {
				t.Errorf("%d steps behind %d", len(l.Steps), shown)
			}
			if want := most[shown]; want != 0 && len(l.Steps) != want {
				t.Errorf("%d steps behind %d, want %d", len(l.Steps), shown, want)
			}
			if shown > 70 && shown%97 != 0 && shown != 600 {
				continue
			}
			for n := top; n > l.Next; n-- {
				if h, err := ladder.Get(l, n); h != walk(root, digits(n)) || err != nil {
					t.Errorf("behind %d Get of %d: %x, %v", shown, n, h, err)
				}
			}
		}
	}
}

// The chapter's example.
func TestExample(t *testing.T) {
	l := ladder.Begin()
	first := walk(api.Hash{9}, digits(top))
	for range 3 {
		secret, _ := ladder.Make(api.Hash{9}, l.Next)
		var err error
		l, err = ladder.Add(l, secret)
		wantErr(t, "Add", err, 0)
	}
	if len(l.Steps) != 2 || l.Next != top-3 {
		t.Errorf("behind three: %v", l)
	}
	if h, err := ladder.Get(l, top); h != first || err != nil {
		t.Errorf("Get of Top: %x, %v, want %x", h, err, first)
	}
}

// LA1 and LA3: behind each ladder the right secret is added, and another one refused where something that was shown follows from it: that is where Next is even.
func TestAddEach(t *testing.T) {
	root := roots()[2]
	for _, next := range nexts() {
		if next < 0 {
			continue
		}
		l := ladderOf(root, next)
		right := walk(root, digits(next))
		got, err := ladder.Add(l, right)
		wantErr(t, fmt.Sprint("Add at ", next), err, 0)
		if want := ladderOf(root, next-1); !same(got, want) {
			t.Errorf("Add at %d: %v, want %v", next, got, want)
		}
		for _, k := range []int{0, 7, 8, 39, 40, 128, 255} {
			other := turned(right, k)
			got, err := ladder.Add(l, other)
			if next%2 == 0 {
				wantErr(t, fmt.Sprintf("Add at %d of another, bit %d", next, k), err, api.ErrSum)
				if !isZero(got) {
					t.Errorf("Add at %d of another: %v beside an error", next, got)
				}
				continue
			}
			wantErr(t, fmt.Sprintf("Add at %d of another, bit %d", next, k), err, 0)
			if want, _ := added(l, other); !same(got, want) || got.Steps[0].Secret != other {
				t.Errorf("Add at %d of another: %v, want %v", next, got, want)
			}
		}
	}
}

// LA1: each step of a smaller rank is looked at, though all others follow.
func TestAddLooksAtEach(t *testing.T) {
	// At top - 7 the steps of the ranks 0, 1 and 2 are those of top - 6, - 5 and - 3; the first two may be any, of which none makes another.
	root := roots()[1]
	l := ladderOf(root, top-7)
	right := walk(root, digits(top-7))
	for i := range 3 {
		c := clone(l)
		c.Steps[i].Secret = turned(c.Steps[i].Secret, 3)
		wantErr(t, fmt.Sprint("Check with another secret of step ", i), ladder.Check(c), 0)
		got, err := ladder.Add(c, right)
		wantErr(t, fmt.Sprint("Add with another secret of step ", i), err, api.ErrSum)
		if !isZero(got) {
			t.Errorf("%v beside an error", got)
		}
	}
	_, err := ladder.Add(l, right)
	wantErr(t, "Add with none", err, 0)
}

// LA1: steps of greater ranks are not looked at, and stay.
func TestAddLeavesGreater(t *testing.T) {
	root := roots()[1]
	l := ladderOf(root, top-13)
	l.Steps[3].Secret = api.Hash{7} // of top - 7, from which nothing that stands here follows
	wantErr(t, "Check", ladder.Check(l), 0)
	got, err := ladder.Add(l, walk(root, digits(top-13)))
	wantErr(t, "Add", err, 0)
	if len(got.Steps) != 4 || got.Steps[1].Number != top-13 || got.Steps[3] != l.Steps[3] {
		t.Errorf("Add: %v", got)
	}
	if h, err := ladder.Get(got, top-7); h != (api.Hash{7}) || err != nil {
		t.Errorf("Get of top - 7: %x, %v", h, err)
	}
	if h, err := ladder.Get(got, top); h != walk(api.Hash{7}, "111") || err != nil {
		t.Errorf("Get of top: %x, %v, want what top - 7 makes", h, err)
	}
}

// LA1: the last secret is the root; behind it there is none.
func TestAddEnd(t *testing.T) {
	for _, root := range roots() {
		l, err := ladder.Add(ladderOf(root, 0), root)
		wantErr(t, "Add of 0", err, 0)
		if l.Next != -1 || len(l.Steps) != 41 || l.Steps[40] != (ladder.Step{Number: 0, Secret: root}) {
			t.Errorf("behind 0: %v", l)
		}
		for _, n := range nexts() {
			if n < 0 {
				continue
			}
			if h, err := ladder.Get(l, n); h != walk(root, digits(n)) || err != nil {
				t.Errorf("Get of %d at the end: %x, %v", n, h, err)
			}
		}
		for _, secret := range []api.Hash{root, {}, l.Steps[0].Secret} {
			got, err := ladder.Add(l, secret)
			wantErr(t, "Add at -1", err, api.ErrState)
			if !isZero(got) {
				t.Errorf("Add at -1: %v beside an error", got)
			}
		}
		_, err = ladder.Add(ladderOf(root, 0), turned(root, 250))
		wantErr(t, "Add of 0 of another root", err, api.ErrSum)
	}
}

// LA1: a secret that nothing follows from is taken, whatever it is; what should make it, and does not, is refused later, and what makes it is not.
func TestAddAny(t *testing.T) {
	root := roots()[1]
	l, err := ladder.Add(ladder.Begin(), api.Hash{5})
	wantErr(t, "Add of any as the first one", err, 0)
	_, err = ladder.Add(l, walk(root, digits(top-1)))
	wantErr(t, "Add of one that does not make it", err, api.ErrSum)
	_, err = ladder.Add(l, api.Hash{5})
	wantErr(t, "Add of the same again", err, api.ErrSum)

	second := api.Hash{6}
	l, err = ladder.Add(ladder.Begin(), walk(second, "1"))
	wantErr(t, "Add of what another one makes", err, 0)
	l, err = ladder.Add(l, second)
	wantErr(t, "Add of that other one", err, 0)
	if h, err := ladder.Get(l, top); h != walk(second, "1") || err != nil {
		t.Errorf("Get of Top: %x, %v", h, err)
	}
}

// LA1: Get of all that was shown, of Next, and below it.
func TestGetEach(t *testing.T) {
	for _, root := range roots()[1:3] {
		all := nexts()
		for _, next := range all {
			l := ladderOf(root, next)
			for _, n := range append([]int{next + 1, next + 2, next + 3, next, next - 1, top, 0}, every(all, 29)...) {
				getOne(t, l, n)
			}
		}
	}
}

// every is each of a list that is so many behind the one ahead of it.
func every(l []int, apart int) []int {
	var out []int
	for i := 0; i < len(l); i += apart {
		out = append(out, l[i])
	}
	return out
}

// getOne holds Get against the chapter's words: of all steps that make it, that of the least rank.
func getOne(t *testing.T, l ladder.Ladder, n int) {
	t.Helper()
	h, err := ladder.Get(l, n)
	var want api.Hash
	var no api.Errno
	switch {
	case n < 0 || n > top:
		no = api.ErrRange
	case n <= l.Next:
		no = api.ErrNone
	default:
		i := slices.IndexFunc(l.Steps, func(s ladder.Step) bool { return makes(s.Number, n) })
		want = secretFrom(l.Steps[i], n)
	}
	wantErr(t, fmt.Sprintf("Get at %d of %d", l.Next, n), err, no)
	if h != want {
		t.Errorf("Get at %d of %d: %x, want %x", l.Next, n, h, want)
	}
}

// LA1: Get of what is no number, and of what was not shown.
func TestGetErrors(t *testing.T) {
	for _, next := range []int{-1, 0, 5, top - 3, top - 1, top} {
		l := ladderOf(api.Hash{1}, next)
		for _, n := range []int{-1, -2, top + 1, top + 2, math.MinInt, math.MaxInt, 1 << 41} {
			h, err := ladder.Get(l, n)
			wantErr(t, fmt.Sprintf("Get at %d of %d", next, n), err, api.ErrRange)
			if h != (api.Hash{}) {
				t.Errorf("Get at %d of %d: %x beside an error", next, n, h)
			}
		}
		for _, n := range []int{0, next - 1, next} {
			if n >= 0 && n <= next {
				h, err := ladder.Get(l, n)
				wantErr(t, fmt.Sprintf("Get at %d of %d", next, n), err, api.ErrNone)
				if h != (api.Hash{}) {
					t.Errorf("Get at %d of %d: %x beside an error", next, n, h)
				}
			}
		}
	}
}

// LA1, LA2: of a ladder that may not be all answer ErrArg, ahead of all else, and nothing.
func TestMayNotBeAll(t *testing.T) {
	for what, l := range badLadders() {
		before := clone(l)
		for _, secret := range []api.Hash{{}, {1}, roots()[2], walk(roots()[2], digits(max(0, min(l.Next, top))))} {
			got, err := ladder.Add(l, secret)
			wantErr(t, "Add: "+what, err, api.ErrArg)
			if !isZero(got) {
				t.Errorf("Add: %s: %v beside an error", what, got)
			}
		}
		for _, n := range []int{-1, 0, 1, top - 1, top, top + 1, math.MinInt, math.MaxInt} {
			h, err := ladder.Get(l, n)
			wantErr(t, fmt.Sprintf("Get of %d: %s", n, what), err, api.ErrArg)
			if h != (api.Hash{}) {
				t.Errorf("Get of %d: %s: %x beside an error", n, what, h)
			}
		}
		if b := ladder.Encode(l); len(b) != 0 {
			t.Errorf("Encode: %s: %v", what, b)
		}
		if !same(l, before) {
			t.Errorf("%s: it was changed", what)
		}
	}
}

// LA2: what is told here is written by hand.
func TestEncodeTold(t *testing.T) {
	if b, want := ladder.Encode(ladder.Begin()), []byte{133, 255, 255, 255, 255, 255, 0}; !bytes.Equal(b, want) {
		t.Errorf("Encode of Begin: %v, want %v", b, want)
	}
	secret := api.Hash{1, 2, 3}
	l, err := ladder.Add(ladder.Begin(), secret)
	wantErr(t, "Add", err, 0)
	want := append([]byte{133, 255, 255, 255, 255, 254, 1, 1, 5, 255, 255, 255, 255, 255}, secret[:]...)
	if b := ladder.Encode(l); !bytes.Equal(b, want) {
		t.Errorf("Encode of one: %v, want %v", b, want)
	}
	b := ladder.Encode(ladderOf(secret, -1))
	if !bytes.HasPrefix(b, []byte{127, 1, 41, 1, 1}) {
		t.Errorf("Encode at -1 begins with %v", b[:min(len(b), 5)])
	}
	if !bytes.HasSuffix(b, append([]byte{0}, secret[:]...)) {
		t.Errorf("Encode at -1 does not end with the root as that of 0")
	}
}

// LA2: there and back.
func TestEncodeEach(t *testing.T) {
	for _, root := range roots() {
		for _, next := range nexts() {
			l := ladderOf(root, next)
			b := ladder.Encode(l)
			if want := laid(l); !bytes.Equal(b, want) {
				t.Fatalf("Encode at %d: %v, want %v", next, b, want)
			}
			got, err := ladder.Decode(b)
			wantErr(t, fmt.Sprint("Decode at ", next), err, 0)
			if !same(got, l) {
				t.Errorf("Decode at %d: %v, want %v", next, got, l)
			}
		}
	}
}

// wantForm: bytes that are no ladder.
func wantForm(t *testing.T, what string, b []byte) {
	t.Helper()
	before := bytes.Clone(b)
	l, err := ladder.Decode(b)
	wantErr(t, "Decode: "+what, err, api.ErrForm)
	if !isZero(l) {
		t.Errorf("Decode: %s: %v beside an error", what, l)
	}
	if !bytes.Equal(b, before) {
		t.Errorf("Decode: %s: the bytes were changed", what)
	}
}

// LA2: bytes that are cut short, and with bytes behind them.
func TestDecodeCut(t *testing.T) {
	for _, next := range []int{top, top - 1, top - 2, top - 7, top - 100, 5, 0, -1} {
		b := laid(ladderOf(roots()[2], next))
		for n := range b {
			wantForm(t, fmt.Sprintf("%d bytes of those at %d", n, next), b[:n])
		}
		for x := range 256 {
			wantForm(t, fmt.Sprintf("those at %d and a byte %d", next, x), append(bytes.Clone(b), byte(x)))
		}
		wantForm(t, fmt.Sprintf("those at %d twice", next), append(bytes.Clone(b), b...))
	}
	wantForm(t, "nil", nil)
	wantForm(t, "none", []byte{})
	wantForm(t, "many", make([]byte, 1<<20))
	wantForm(t, "many of 255", bytes.Repeat([]byte{255}, 1<<20))
}

// LA2: ladders that may not be, laid all the same.
func TestDecodeMayNotBe(t *testing.T) {
	for what, l := range badLadders() {
		wantForm(t, what, laid(l))
	}
}

// LA2: how many steps, and their numbers.
func TestDecodeBounds(t *testing.T) {
	l := ladderOf(roots()[2], -1)
	got, err := ladder.Decode(laid(l))
	wantErr(t, "Decode of 41 steps", err, 0)
	if len(got.Steps) != 41 {
		t.Errorf("%d steps of 41", len(got.Steps))
	}
	for i := range 42 {
		c := clone(l)
		c.Steps = slices.Insert(c.Steps, i, ladder.Step{Number: top, Secret: walk(roots()[2], digits(top))})
		wantForm(t, fmt.Sprint("42 steps, one more at ", i), laid(c))
	}
	few := ladderOf(roots()[2], top-1)
	for _, n := range []uint64{0, 2, 41, 42, 1 << 20, 1 << 40, 1<<63 - 1, 1 << 63, math.MaxUint64} {
		b := append(laidInt(few.Next), laidUint(n)...)
		b = append(append(b, laidUint(top)...), few.Steps[0].Secret[:]...)
		wantForm(t, fmt.Sprintf("one step, told to be %d", n), b)
	}
	for _, n := range []uint64{0, 1, top - 1, top + 1, 1<<63 + top, 1<<40 + top, math.MaxUint64} {
		b := append(laidInt(few.Next), laidUint(1)...)
		b = append(append(b, laidUint(n)...), few.Steps[0].Secret[:]...)
		wantForm(t, fmt.Sprint("the number ", n), b)
	}
	for _, n := range []int{-1, -2, math.MinInt, top + 1, math.MaxInt, 0} {
		wantForm(t, fmt.Sprint("no steps at ", n), append(laidInt(n), 0))
	}
}

// LA2: numbers that are laid another way than layer 1 lays them.
func TestDecodeOtherWay(t *testing.T) {
	secret := walk(roots()[2], digits(top))
	for what, head := range map[string][]byte{
		"Next with a nought ahead":     {134, 0, 255, 255, 255, 255, 254, 1, 1, 5, 255, 255, 255, 255, 255},
		"how many with a nought ahead": {133, 255, 255, 255, 255, 254, 2, 0, 1, 5, 255, 255, 255, 255, 255},
		"a number with a nought ahead": {133, 255, 255, 255, 255, 254, 1, 1, 6, 0, 255, 255, 255, 255, 255},
		"Next as a number from 0 on":   {5, 255, 255, 255, 255, 254, 1, 1, 5, 255, 255, 255, 255, 255},
		"how many as an int":           {133, 255, 255, 255, 255, 254, 129, 1, 5, 255, 255, 255, 255, 255},
		"a number as an int":           {133, 255, 255, 255, 255, 254, 1, 1, 133, 255, 255, 255, 255, 255},
		"how many is away":             {133, 255, 255, 255, 255, 254, 5, 255, 255, 255, 255, 255},
	} {
		wantForm(t, what, append(head, secret[:]...))
	}
}

// LA2: a bit of a ladder's bytes that is turned makes other bytes: either of no ladder, or of another one.
func TestDecodeBits(t *testing.T) {
	for _, next := range []int{top, top - 1, top - 2, top - 3, top - 11, 4, 0, -1} {
		l := ladderOf(roots()[1], next)
		b := laid(l)
		apart := 1
		if len(b) > 200 {
			apart = 7 // of long ones one bit a byte, or two, are enough
		}
		for k := 0; k < 8*len(b); k += apart {
			c := bytes.Clone(b)
			c[k/8] ^= 1 << (k % 8)
			decodeOne(t, c)
		}
	}
}

// decodeOne holds Decode against what it answers: bytes that are a ladder are just those that are laid of it.
func decodeOne(t *testing.T, b []byte) {
	t.Helper()
	l, err := ladder.Decode(b)
	if err != nil {
		wantErr(t, "Decode", err, api.ErrForm)
		if !isZero(l) {
			t.Errorf("Decode: %v beside an error", l)
		}
		return
	}
	if !mayBe(l) {
		t.Errorf("Decode of %v: %v, which may not be", b, l)
	}
	if !bytes.Equal(laid(l), b) || !bytes.Equal(ladder.Encode(l), b) {
		t.Errorf("Decode of %v: %v, which is laid otherwise", b, l)
	}
}

// Rule 3: what is handed in is not changed, its spare room neither; what is told is new memory.
func TestMemory(t *testing.T) {
	root := roots()[2]
	for _, next := range []int{top, top - 1, top - 2, top - 3, top - 12, 7, 0} {
		want := ladderOf(root, next)
		room := make([]ladder.Step, len(want.Steps)+4)
		copy(room, want.Steps)
		for i := len(want.Steps); i < len(room); i++ {
			room[i].Number = 99
		}
		whole := slices.Clone(room)
		l := ladder.Ladder{Next: next, Steps: room[:len(want.Steps)]}
		got, err := ladder.Add(l, walk(root, digits(next)))
		wantErr(t, "Add", err, 0)
		ladder.Add(l, api.Hash{3})
		ladder.Check(l)
		ladder.Get(l, top)
		b := ladder.Encode(l)
		if !slices.Equal(room, whole) || l.Next != next {
			t.Errorf("at %d what was handed in was changed", next)
		}
		for i := range room {
			room[i] = ladder.Step{Number: -7}
		}
		if !same(got, ladderOf(root, next-1)) {
			t.Errorf("at %d what was handed in is kept in what Add told", next)
		}
		copy(room, whole)
		spoil(got.Steps)
		if !slices.Equal(room, whole) {
			t.Errorf("at %d what Add told is kept in what was handed in", next)
		}
		c := ladder.Encode(l)
		for i := range b[:cap(b)] {
			b[:cap(b)][i] = 1
		}
		if !bytes.Equal(c, laid(want)) || !bytes.Equal(ladder.Encode(l), laid(want)) {
			t.Errorf("at %d what Encode told is shared", next)
		}
		one, _ := ladder.Decode(c)
		two, _ := ladder.Decode(c)
		spoil(one.Steps)
		clear(c)
		if !same(two, want) {
			t.Errorf("at %d what Decode told is shared", next)
		}
	}
	spoil(ladder.Begin().Steps)
	one, two := ladder.Begin(), ladder.Begin()
	one.Steps = append(one.Steps, ladder.Step{Number: 1})
	if one.Next = 3; !same(two, ladder.Ladder{Next: top}) || !same(ladder.Begin(), two) {
		t.Errorf("what Begin tells is shared")
	}
}

// spoil writes over steps and their spare room.
func spoil(l []ladder.Step) {
	l = l[:cap(l)]
	for i := range l {
		l[i] = ladder.Step{Number: 42, Secret: api.Hash{42}}
	}
}

// Rule 3: nil and the empty list are the same.
func TestNilAndEmpty(t *testing.T) {
	l := ladder.Ladder{Next: top, Steps: []ladder.Step{}}
	wantErr(t, "Check of an empty list", ladder.Check(l), 0)
	if !bytes.Equal(ladder.Encode(l), ladder.Encode(ladder.Begin())) {
		t.Errorf("Encode of an empty list: %v", ladder.Encode(l))
	}
	got, err := ladder.Add(l, api.Hash{1})
	wantErr(t, "Add to an empty list", err, 0)
	if len(got.Steps) != 1 {
		t.Errorf("Add to an empty list: %v", got)
	}
	_, err = ladder.Get(l, top)
	wantErr(t, "Get of an empty list", err, api.ErrNone)
}

// Rule 4: asking changes nothing.
func TestAskedAgain(t *testing.T) {
	l := ladderOf(roots()[1], top-37)
	for range 3 {
		wantErr(t, "Check", ladder.Check(l), 0)
		wantErr(t, "Check of none", ladder.Check(ladder.Ladder{}), api.ErrArg)
		getOne(t, l, top-30)
		getOne(t, l, top-37)
		got, err := ladder.Add(l, walk(roots()[1], digits(top-37)))
		wantErr(t, "Add", err, 0)
		if !same(got, ladderOf(roots()[1], top-38)) || !same(l, ladderOf(roots()[1], top-37)) {
			t.Errorf("Add: %v of %v", got, l)
		}
	}
}

// Rule 1: ladders with very many steps.
func TestManySteps(t *testing.T) {
	for _, next := range []int{-1, 0, top, math.MinInt} {
		l := ladder.Ladder{Next: next, Steps: make([]ladder.Step, 1<<20)}
		wantErr(t, "Check of many", ladder.Check(l), api.ErrArg)
		_, err := ladder.Add(l, api.Hash{})
		wantErr(t, "Add of many", err, api.ErrArg)
		_, err = ladder.Get(l, 0)
		wantErr(t, "Get of many", err, api.ErrArg)
		if b := ladder.Encode(l); len(b) != 0 {
			t.Errorf("Encode of many: %d bytes", len(b))
		}
	}
}

// LA1 and LA3: all rows of sixteen secrets, of which each is the right one of its root, or, where its bit says so, one of another root.
func TestAddRows(t *testing.T) {
	first, second := roots()[1], roots()[2]
	var onward func(l ladder.Ladder, left int)
	onward = func(l ladder.Ladder, left int) {
		if left == 0 {
			return
		}
		for _, root := range []api.Hash{first, second} {
			secret := walk(root, digits(l.Next))
			got, err := ladder.Add(l, secret)
			want, no := added(l, secret)
			wantErr(t, fmt.Sprint("Add at ", l.Next), err, no)
			if !same(got, want) {
				t.Fatalf("Add at %d: %v, want %v", l.Next, got, want)
			}
			if err == nil {
				if !mayBe(got) {
					t.Fatalf("Add at %d: %v, which may not be", l.Next, got)
				}
				for n := top; n >= got.Next; n-- {
					getOne(t, got, n)
				}
				onward(got, left-1)
			}
		}
	}
	onward(ladder.Begin(), 16)
}

// FuzzDecode: bytes that are a ladder are just those that are laid of it.
func FuzzDecode(f *testing.F) {
	for _, next := range []int{top, top - 1, top - 2, top - 9, 3, 0, -1} {
		f.Add(laid(ladderOf(roots()[2], next)))
	}
	for _, l := range badLadders() {
		f.Add(laid(l))
	}
	f.Fuzz(func(t *testing.T, b []byte) { decodeOne(t, b) })
}

// FuzzLadder: a ladder at any number, of which some secrets and numbers are changed, and what is added to it and asked of it.
func FuzzLadder(f *testing.F) {
	f.Add(uint64(top), []byte{0, 0, 0, 0, 1, 0, 0})
	f.Add(uint64(0), []byte{1, 1, 0})
	f.Add(uint64(top-7), []byte{2, 0, 7, 0, 0, 0})
	f.Add(uint64(1<<39), []byte{0, 3, 39, 1, 0})
	f.Add(uint64(1<<40), []byte{4, 4, 0})
	f.Fuzz(func(t *testing.T, next uint64, does []byte) {
		l := ladderOf(roots()[2], int(next%(1<<40+1))-1)
		for len(does) >= 3 {
			ladderStep(t, &l, does[0], int(does[1]), int(does[2]))
			does = does[3:]
		}
	})
}

// ladderStep does one thing to a ladder.
func ladderStep(t *testing.T, l *ladder.Ladder, kind byte, x, y int) {
	t.Helper()
	switch {
	case kind%8 == 7 && len(l.Steps) > 0:
		i := x % len(l.Steps)
		l.Steps[i].Secret = turned(l.Steps[i].Secret, y)
	case kind%8 == 6 && len(l.Steps) > 0 && y < 64:
		c := clone(*l)
		i := x % len(l.Steps)
		c.Steps[i].Number = int(uint64(c.Steps[i].Number) ^ 1<<y)
		wantErr(t, "Check of another number", ladder.Check(c), api.ErrArg)
	}
	may := mayBe(*l)
	if !may {
		wantErr(t, "Check", ladder.Check(*l), api.ErrArg)
		_, err := ladder.Add(*l, api.Hash{})
		wantErr(t, "Add", err, api.ErrArg)
		wantForm(t, "a ladder that may not be", laid(*l))
		*l = ladderOf(roots()[1], max(l.Next-x, -1))
	}
	wantErr(t, "Check", ladder.Check(*l), 0)
	decodeOne(t, laid(*l))
	getOne(t, *l, l.Next+x-128)
	getOne(t, *l, l.Next+1<<(y%41))
	secret := walk(roots()[2], digits(max(l.Next, 0)))
	if kind%8 == 5 {
		secret = turned(secret, x)
	}
	got, err := ladder.Add(*l, secret)
	want, no := added(*l, secret)
	wantErr(t, "Add", err, no)
	if !same(got, want) {
		t.Fatalf("Add at %d: %v, want %v", l.Next, got, want)
	}
	if no == 0 {
		*l = got
	}
}
