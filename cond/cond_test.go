package cond_test

import (
	"bytes"
	"encoding/binary"
	"errors"
	"math"
	"reflect"
	"slices"
	"testing"

	"bayou/api"
	"bayou/blake"
	"bayou/cond"
)

const oldest = 1 << 16

// wantErr holds an error against the number that is asked for; 0: none.
func wantErr(t *testing.T, what string, err error, want api.Errno) {
	t.Helper()
	var got api.Errno
	switch {
	case want == 0 && err != nil:
		t.Errorf("%s: %v, want no error", what, err)
	case want != 0 && (!errors.As(err, &got) || got != want):
		t.Errorf("%s: %v, want %v", what, err, want)
	}
}

// one is the condition of one branch.
func one(b cond.Branch) cond.Cond { return cond.Cond{Branches: []cond.Branch{b}} }

// upTo are the numbers from 0 on, so many.
func upTo(n int) []int {
	var l []int
	for i := range n {
		l = append(l, i)
	}
	return l
}

// strangers are numbers about the parties' edges, and far from them, that are no party's; some have a party's low bits.
func strangers() []int {
	l := []int{255, 256, 257, 1 << 16, 1<<32 + 1, math.MaxInt, math.MinInt, math.MinInt + 1}
	for n := range api.MaxParty {
		l = append(l, -1-n, api.MaxParty+n)
	}
	return l
}

// rows are all lists of up to three of some numbers.
func rows(of ...int) [][]int {
	l := [][]int{nil}
	for at := 0; at < len(l) && len(l[at]) < 3; at++ {
		for _, n := range of {
			l = append(l, append(slices.Clone(l[at]), n))
		}
	}
	return l
}

// sumOf is a sum that is like noughts but for one byte.
func sumOf(at int, x byte) api.Hash {
	var h api.Hash
	h[at] = x
	return h
}

// number is a number as bytes, as chapter 1 has it: how many there are, and these.
func number(n int) []byte {
	all := binary.BigEndian.AppendUint64(nil, uint64(n))
	short := bytes.TrimLeft(all, "\x00")
	return append([]byte{byte(len(short))}, short...)
}

// laid is a condition as bytes, as the chapter has it: what Put is held against.
func laid(c cond.Cond) []byte {
	b := number(len(c.Branches))
	for _, x := range c.Branches {
		b = append(b, number(len(x.Keys))...)
		for _, key := range x.Keys {
			b = append(b, number(key)...)
		}
		b = append(b, x.Lock[:]...)
		b = append(b, number(x.After)...)
		b = append(b, number(x.Older)...)
	}
	return b
}

// alike tells whether two conditions have the same branches, nil and empty lists being the same.
func alike(a, b cond.Cond) bool {
	return slices.EqualFunc(a.Branches, b.Branches, func(x, y cond.Branch) bool {
		return slices.Equal(x.Keys, y.Keys) && x.Lock == y.Lock && x.After == y.After && x.Older == y.Older
	})
}

// clone is a condition that shares nothing.
func clone(c cond.Cond) cond.Cond {
	var d cond.Cond
	for _, b := range c.Branches {
		b.Keys = slices.Clone(b.Keys)
		d.Branches = append(d.Branches, b)
	}
	return d
}

// goodBranches are branches that may be: at all bounds, and between them.
func goodBranches() []cond.Branch {
	return []cond.Branch{
		{Keys: []int{0}},
		{Keys: []int{15}},
		{Keys: []int{0, 15}},
		{Keys: upTo(api.MaxParty)},
		{Keys: upTo(15)},
		{Keys: []int{1, 2}, Lock: cond.Lock([]byte("a"))},
		{Keys: []int{3, 7, 8}, After: 1},
		{Keys: []int{4}, After: api.MaxHeight},
		{Keys: []int{4}, After: api.MaxHeight - 1, Older: 1},
		{Keys: []int{5}, Older: oldest},
		{Keys: []int{5}, Older: oldest - 1, Lock: sumOf(0, 1)},
		{Keys: []int{6, 9}, Lock: sumOf(31, 255), After: 256, Older: 255},
		{Keys: upTo(api.MaxParty), Lock: cond.Lock(nil), After: api.MaxHeight, Older: oldest},
	}
}

// badBranches are branches that may not be, each by one thing.
func badBranches() []cond.Branch {
	l := []cond.Branch{
		{},
		{Keys: []int{}, Lock: cond.Lock(nil), After: 1, Older: 1},
		{Keys: upTo(api.MaxParty + 1)},
		{Keys: append(upTo(api.MaxParty), 15)},
		{Keys: append([]int{0}, upTo(api.MaxParty)...)},
		{Keys: []int{1, 1}},
		{Keys: []int{0, 0}},
		{Keys: []int{15, 15}},
		{Keys: []int{1, 2, 2}},
		{Keys: []int{1, 2, 1}},
		{Keys: []int{2, 1}},
		{Keys: []int{15, 0}},
		{Keys: []int{0, 2, 1, 3}},
		{Keys: slices.Repeat([]int{3}, 17)},
	}
	for _, who := range strangers() {
		l = append(l, cond.Branch{Keys: []int{who}}, cond.Branch{Keys: []int{3, who}}, cond.Branch{Keys: []int{who, 3}})
	}
	for _, n := range []int{-1, math.MinInt, api.MaxHeight + 1, math.MaxInt} {
		l = append(l, cond.Branch{Keys: []int{1}, After: n})
	}
	for _, n := range []int{-1, math.MinInt, oldest + 1, api.MaxHeight, math.MaxInt} {
		l = append(l, cond.Branch{Keys: []int{1}, Older: n})
	}
	return l
}

// goodConds are conditions that may be: of each good branch alone, and of 2 to 8 of them.
func goodConds() []cond.Cond {
	var l []cond.Cond
	all := goodBranches()
	for i, b := range all {
		l = append(l, one(b))
		for n := 2; n <= 8; n++ {
			l = append(l, cond.Cond{Branches: slices.Concat(all[i:], all)[:n]})
		}
	}
	return l
}

// badConds are conditions that may not be: of no branch, of nine and more, and of a bad branch among good ones, wherever it stands.
func badConds() []cond.Cond {
	l := []cond.Cond{{}, {Branches: []cond.Branch{}}}
	all := goodBranches()
	for _, n := range []int{9, 10, 13} {
		l = append(l, cond.Cond{Branches: all[:n]})
	}
	l = append(l, cond.Cond{Branches: slices.Repeat(all[:1], 256)}, cond.Cond{Branches: slices.Repeat(all[:1], 257)})
	for _, bad := range badBranches() {
		l = append(l, one(bad))
		for at := range 8 {
			c := cond.Cond{Branches: slices.Clone(all[:8])}
			c.Branches[at] = bad
			l = append(l, c)
		}
	}
	return l
}

// few are the conditions of at most two branches.
func few() []cond.Cond {
	return slices.DeleteFunc(append(goodConds(), badConds()...), func(c cond.Cond) bool { return len(c.Branches) > 2 })
}

// TestCheck: CO1, what may be, at its bounds, and what may not be, beyond them.
func TestCheck(t *testing.T) {
	for _, c := range goodConds() {
		if err := cond.Check(c); err != nil {
			t.Errorf("Check of %v: %v", c, err)
		}
	}
	for _, c := range badConds() {
		if err := cond.Check(c); err == nil {
			t.Errorf("Check of %v: no error", c)
		} else {
			wantErr(t, "Check of what may not be", err, api.ErrArg)
		}
	}
}

// TestCheckKeys: CO1, of all short lists of keys those may be that are parties, ascending, each once.
func TestCheckKeys(t *testing.T) {
	for _, keys := range rows(-16, -1, 0, 1, 2, 14, 15, 16, 17) {
		want := api.Errno(0)
		for i, key := range keys {
			if key < 0 || key > 15 || i > 0 && keys[i-1] >= key {
				want = api.ErrArg
			}
		}
		if len(keys) == 0 {
			want = api.ErrArg
		}
		wantErr(t, "Check of keys", cond.Check(one(cond.Branch{Keys: keys})), want)
	}
}

// TestCheckBranches: CO1, one to eight branches.
func TestCheckBranches(t *testing.T) {
	for n := range 20 {
		c := cond.Cond{Branches: slices.Repeat([]cond.Branch{{Keys: []int{1}}}, n)}
		want := api.Errno(0)
		if n < 1 || n > 8 {
			want = api.ErrArg
		}
		wantErr(t, "Check of branches", cond.Check(c), want)
		wantErr(t, "Opens of branches", cond.Opens(c, 0, cond.Seen{Signed: []int{1}}), want)
	}
}

// TestExample: CO1 and CO2, the example of the chapter.
func TestExample(t *testing.T) {
	c := cond.All(2, 1)
	if !alike(c, one(cond.Branch{Keys: []int{1, 2}})) {
		t.Errorf("All(2, 1): %v", c)
	}
	wantErr(t, "both have signed", cond.Opens(c, 0, cond.Seen{Signed: []int{1, 2}}), 0)
	wantErr(t, "1 alone", cond.Opens(c, 0, cond.Seen{Signed: []int{1}}), api.ErrSign)
	wantErr(t, "2 alone", cond.Opens(c, 0, cond.Seen{Signed: []int{2}}), api.ErrSign)
	wantErr(t, "nobody", cond.Opens(c, 0, cond.Seen{}), api.ErrSign)
}

// TestOpensOrder: CO1, of all errors that apply the first one, wherever the branch stands.
func TestOpensOrder(t *testing.T) {
	secret := []byte("open")
	b := cond.Branch{Keys: []int{2, 5}, Lock: cond.Lock(secret), After: 10, Older: 20}
	other := cond.Branch{Keys: []int{1}}
	bad := cond.Branch{Keys: []int{2, 1}}
	short := cond.Seen{Signed: []int{2}, Secret: []byte("shut"), Height: 9, Age: 19}
	signed, opened := short, short
	signed.Signed = []int{2, 5}
	opened.Signed, opened.Secret = signed.Signed, secret
	later, older, all := opened, opened, opened
	later.Height, older.Age = 10, 20
	all.Height, all.Age = 10, 20
	for at := range 3 {
		c := cond.Cond{Branches: []cond.Branch{other, other, other}}
		c.Branches[at] = b
		for _, x := range []struct {
			what string
			s    cond.Seen
			want api.Errno
		}{
			{"nothing is right", short, api.ErrSign},
			{"signed", signed, api.ErrHash},
			{"signed, with the secret", opened, api.ErrEarly},
			{"high, and young", later, api.ErrEarly},
			{"low, and old", older, api.ErrEarly},
			{"all is right", all, 0},
		} {
			wantErr(t, x.what, cond.Opens(c, at, x.s), x.want)
			wantErr(t, "no such branch: "+x.what, cond.Opens(c, 3, x.s), api.ErrRange)
			wantErr(t, "a branch below 0: "+x.what, cond.Opens(c, -1, x.s), api.ErrRange)
			for bads := range 3 {
				d := clone(c)
				d.Branches[bads] = bad
				wantErr(t, "may not be: "+x.what, cond.Opens(d, at, x.s), api.ErrArg)
				wantErr(t, "may not be, no such branch: "+x.what, cond.Opens(d, 3, x.s), api.ErrArg)
			}
		}
	}
}

// TestOpensNoBranch: CO1, a number of a branch that is not there, near and far.
func TestOpensNoBranch(t *testing.T) {
	for n := 1; n <= 8; n++ {
		c := cond.Cond{Branches: slices.Repeat([]cond.Branch{{Keys: []int{1}}}, n)}
		for at := range n {
			wantErr(t, "a branch that is there", cond.Opens(c, at, cond.Seen{Signed: []int{1}}), 0)
		}
		for _, at := range []int{-1, -n, math.MinInt, n, n + 1, 256 + n - 1, 1 << 32, math.MaxInt} {
			wantErr(t, "a branch that is not there", cond.Opens(c, at, cond.Seen{Signed: []int{1}}), api.ErrRange)
		}
	}
	for _, c := range badConds() {
		for _, at := range []int{-1, 0, 7, 8, 300} {
			wantErr(t, "a condition that may not be", cond.Opens(c, at, cond.Seen{Signed: upTo(16)}), api.ErrArg)
		}
	}
}

// TestOpensSigned: CO1, each key must be among those that signed, in any order, twice or with others; those of no party do not count.
func TestOpensSigned(t *testing.T) {
	for _, keys := range [][]int{{0}, {15}, {1, 2}, {0, 7, 15}, upTo(16)} {
		for mask := range 1 << len(keys) {
			if len(keys) == 16 && mask < 1<<16-64 && mask%251 != 0 {
				continue
			}
			var signed []int
			for i, key := range keys {
				if mask>>i&1 == 1 {
					signed = append(signed, key)
				}
			}
			want := api.Errno(0)
			if len(signed) < len(keys) {
				want = api.ErrSign
			}
			turned := slices.Clone(signed)
			slices.Reverse(turned)
			for _, s := range [][]int{signed, turned, slices.Concat(signed, turned), slices.Concat(strangers(), turned), slices.Concat(signed, strangers())} {
				wantErr(t, "Opens by signatures", cond.Opens(one(cond.Branch{Keys: keys}), 0, cond.Seen{Signed: s}), want)
			}
		}
	}
}

// TestOpensLock: CO1, a lock of noughts asks for no secret; any other asks for its own, be it none.
func TestOpensLock(t *testing.T) {
	secrets := [][]byte{nil, {}, {0}, {0, 0}, []byte("a"), []byte("b"), []byte("ab"), bytes.Repeat([]byte{7}, 64), bytes.Repeat([]byte{7}, 65), bytes.Repeat([]byte{7}, 1000)}
	opens := func(lock api.Hash, secret []byte) error {
		return cond.Opens(one(cond.Branch{Keys: []int{1}, Lock: lock}), 0, cond.Seen{Signed: []int{1}, Secret: secret})
	}
	for _, right := range secrets {
		wantErr(t, "no lock", opens(api.Hash{}, right), 0)
		for _, shown := range secrets {
			want := api.ErrHash
			if bytes.Equal(right, shown) {
				want = 0
			}
			wantErr(t, "a secret's lock", opens(cond.Lock(right), shown), want)
		}
		for at := range 32 {
			near := cond.Lock(right)
			near[at] ^= 1
			wantErr(t, "a lock that is near it", opens(near, right), api.ErrHash)
			wantErr(t, "a lock that is nearly noughts", opens(sumOf(at, 1), right), api.ErrHash)
		}
	}
	zero := api.Hash{}
	wantErr(t, "the lock's own bytes", opens(cond.Lock([]byte("a")), zero[:]), api.ErrHash)
}

// TestOpensEarly: CO1, at its height and age it opens, below either of them it does not.
func TestOpensEarly(t *testing.T) {
	for _, after := range []int{0, 1, 7, api.MaxHeight - 1, api.MaxHeight} {
		for _, older := range []int{0, 1, 9, oldest - 1, oldest} {
			c := one(cond.Branch{Keys: []int{1}, After: after, Older: older})
			for _, height := range []int{math.MinInt, -1, 0, after - 1, after, after + 1, math.MaxInt} {
				for _, age := range []int{math.MinInt, -1, 0, older - 1, older, older + 1, math.MaxInt} {
					want := api.Errno(0)
					if height < after || age < older {
						want = api.ErrEarly
					}
					wantErr(t, "Opens by height and age", cond.Opens(c, 0, cond.Seen{Signed: []int{1}, Height: height, Age: age}), want)
				}
			}
		}
	}
}

// TestLock: CO1, it is the sum of the secret.
func TestLock(t *testing.T) {
	for n := range 140 {
		secret := bytes.Repeat([]byte{byte(n), 1}, n)[:n]
		if got := cond.Lock(secret); got != blake.Sum(secret) {
			t.Errorf("Lock of %d bytes: %x", n, got)
		}
	}
	if got := blake.Text(cond.Lock([]byte("abc"))); got != "508c5e8c327c14e2e1a72ba34eeb452f37458b209ed63a294d999b4c86675982" {
		t.Errorf("Lock of abc: %s", got)
	}
	if cond.Lock(nil) != cond.Lock([]byte{}) {
		t.Error("Lock of nil and of nothing differ")
	}
}

// TestAll: CO2, keys in any order, and twice; also keys that are no party's, and none.
func TestAll(t *testing.T) {
	for _, keys := range rows(-1, 0, 1, 2, 15, 16, math.MaxInt, math.MinInt) {
		var want []int
		for _, key := range keys {
			if !slices.Contains(want, key) {
				want = append(want, key)
			}
		}
		slices.Sort(want)
		if got := cond.All(keys...); !alike(got, one(cond.Branch{Keys: want})) {
			t.Errorf("All of %v: %v", keys, got)
		}
	}
	down := upTo(api.MaxParty)
	slices.Reverse(down)
	c := cond.All(append(down, down...)...)
	if !alike(c, one(cond.Branch{Keys: upTo(api.MaxParty)})) {
		t.Errorf("All of everybody, twice: %v", c)
	}
	wantErr(t, "Check of everybody", cond.Check(c), 0)
	wantErr(t, "Check of nobody", cond.Check(cond.All()), api.ErrArg)
	wantErr(t, "Check of a stranger", cond.Check(cond.All(16, 1)), api.ErrArg)
}

// TestOr: CO2, the branches of the one, and behind them those of the other, as they are, also where these may not be.
func TestOr(t *testing.T) {
	l := slices.Concat(goodConds(), badConds())
	for i := range l {
		a, b := l[i], l[(i*7+3)%len(l)]
		want := cond.Cond{Branches: slices.Concat(a.Branches, b.Branches)}
		if got := cond.Or(a, b); !alike(got, want) {
			t.Errorf("Or of %v and %v: %v", a, b, got)
		}
	}
	if got := cond.Or(cond.Cond{}, cond.Cond{}); len(got.Branches) != 0 {
		t.Errorf("Or of nothing: %v", got)
	}
	c := cond.Or(cond.All(1), cond.Or(cond.All(2), cond.All(3)))
	for at := range 3 {
		wantErr(t, "a branch of Or", cond.Opens(c, at, cond.Seen{Signed: []int{at + 1}}), 0)
		wantErr(t, "another's branch of Or", cond.Opens(c, at, cond.Seen{Signed: []int{(at+1)%3 + 1}}), api.ErrSign)
	}
	eight := cond.Cond{Branches: goodBranches()[:8]}
	wantErr(t, "Check of eight, and none", cond.Check(cond.Or(eight, cond.Cond{})), 0)
	wantErr(t, "Check of eight, and one", cond.Check(cond.Or(eight, cond.All(1))), api.ErrArg)
}

// TestPutBytes: CO2, what a condition is as bytes, told byte by byte.
func TestPutBytes(t *testing.T) {
	h := sumOf(0, 9)
	noughts := make([]byte, 32)
	wide := bytes.Repeat([]byte{255}, 8)
	for _, x := range []struct {
		c    cond.Cond
		want []byte
	}{
		{cond.Cond{}, []byte{0}},
		{one(cond.Branch{}), slices.Concat([]byte{1, 1, 0}, noughts, []byte{0, 0})},
		{cond.All(2, 1), slices.Concat([]byte{1, 1, 1, 2, 1, 1, 1, 2}, noughts, []byte{0, 0})},
		{one(cond.Branch{Keys: []int{0}, Lock: h, After: 300, Older: 5}), slices.Concat([]byte{1, 1, 1, 1, 0}, h[:], []byte{2, 1, 44, 1, 5})},
		{one(cond.Branch{Keys: []int{-1}, After: -1, Older: -2}), slices.Concat([]byte{1, 1, 1, 1, 8}, wide, noughts, []byte{8}, wide, []byte{8}, wide[:7], []byte{254})},
		{one(cond.Branch{Keys: []int{math.MinInt}}), slices.Concat([]byte{1, 1, 1, 1, 8, 128, 0, 0, 0, 0, 0, 0, 0}, noughts, []byte{0, 0})},
		{cond.Or(cond.All(3), cond.All(4)), slices.Concat([]byte{1, 2, 1, 1, 1, 3}, noughts, []byte{0, 0, 1, 1, 1, 4}, noughts, []byte{0, 0})},
	} {
		if got := cond.Put(nil, x.c); !bytes.Equal(got, x.want) {
			t.Errorf("Put of %v: %v, want %v", x.c, got, x.want)
		}
	}
}

// TestPut: CO2, any bytes, and the condition's behind them, be it one that may not be.
func TestPut(t *testing.T) {
	for _, c := range slices.Concat(goodConds(), badConds()) {
		for _, b := range [][]byte{nil, {}, {0}, {255, 0, 0}, bytes.Repeat([]byte{7}, 300), laid(c)} {
			if got := cond.Put(b, c); !bytes.Equal(got, slices.Concat(b, laid(c))) {
				t.Errorf("Put of %v behind %d bytes: %v", c, len(b), got)
			}
		}
	}
}

// wantForm is that bytes are no condition's: ErrForm, and nothing beside it.
func wantForm(t *testing.T, what string, b []byte) {
	t.Helper()
	c, err := cond.Decode(b)
	if err == nil {
		t.Errorf("%s: Decode of %v: %v", what, b, c)
		return
	}
	wantErr(t, what, err, api.ErrForm)
	if !reflect.DeepEqual(c, cond.Cond{}) {
		t.Errorf("%s: beside the error: %v", what, c)
	}
}

// TestDecode: CO2, what Put laid comes back; cut short, or with bytes left over, it does not.
func TestDecode(t *testing.T) {
	for _, c := range goodConds() {
		b := cond.Put(nil, c)
		got, err := cond.Decode(b)
		if err != nil || !alike(got, c) {
			t.Errorf("Decode of %v: %v, %v", c, got, err)
		}
		for n := range b {
			wantForm(t, "cut short", b[:n])
		}
		for _, x := range []byte{0, 1, 9, 255} {
			wantForm(t, "a byte left over", append(slices.Clone(b), x))
		}
		wantForm(t, "another one left over", slices.Concat(b, b))
		wantForm(t, "a byte ahead", slices.Concat([]byte{0}, b))
	}
	wantForm(t, "nil", nil)
	wantForm(t, "nothing", []byte{})
}

// TestDecodeBad: CO2, conditions that may not be are no bytes of any.
func TestDecodeBad(t *testing.T) {
	for _, c := range badConds() {
		wantForm(t, "a condition that may not be", laid(c))
	}
}

// TestDecodeForm: CO2, numbers that are not laid as layer 1 has them, and counts beyond what follows.
func TestDecodeForm(t *testing.T) {
	noughts := make([]byte, 32)
	for _, x := range []struct {
		what string
		b    []byte
	}{
		{"a count with a needless nought", slices.Concat([]byte{2, 0, 1, 1, 1, 1, 3}, noughts, []byte{0, 0})},
		{"a count of 0 with a needless nought", []byte{1, 0}},
		{"a key with a needless nought", slices.Concat([]byte{1, 1, 1, 1, 2, 0, 3}, noughts, []byte{0, 0})},
		{"a key 0 with a needless nought", slices.Concat([]byte{1, 1, 1, 1, 1, 0}, noughts, []byte{0, 0})},
		{"After with a needless nought", slices.Concat([]byte{1, 1, 1, 1, 1, 3}, noughts, []byte{1, 0, 0})},
		{"Older with a needless nought", slices.Concat([]byte{1, 1, 1, 1, 1, 3}, noughts, []byte{0, 1, 0})},
		{"a number of nine bytes", slices.Concat([]byte{1, 1, 1, 1, 1, 3}, noughts, []byte{9, 1, 0, 0, 0, 0, 0, 0, 0, 0, 0})},
		{"a key beyond an int", slices.Concat([]byte{1, 1, 1, 1, 8, 255, 255, 255, 255, 255, 255, 255, 255}, noughts, []byte{0, 0})},
		{"a key of 2^32 and 3", slices.Concat([]byte{1, 1, 1, 1, 5, 1, 0, 0, 0, 3}, noughts, []byte{0, 0})},
		{"more branches than bytes", []byte{1, 8, 1}},
		{"a great count", []byte{8, 255, 255, 255, 255, 255, 255, 255, 255}},
		{"a great count of keys", []byte{1, 1, 8, 127, 255, 255, 255, 255, 255, 255, 255}},
	} {
		wantForm(t, x.what, x.b)
	}
}

// checkDecode holds Decode against the bytes that a condition has: what is taken off lays these bytes, and may be; else it is ErrForm.
func checkDecode(t *testing.T, b []byte) {
	t.Helper()
	c, err := cond.Decode(b)
	if err != nil {
		wantForm(t, "no condition's bytes", b)
		return
	}
	if !bytes.Equal(laid(c), b) || !bytes.Equal(cond.Put(nil, c), b) {
		t.Errorf("Decode of %v: %v, which has other bytes", b, c)
	}
	wantErr(t, "Check of what was taken off", cond.Check(c), 0)
}

// TestDecodeOneByte: CO2, bytes with any one byte changed are another condition's, or none's.
func TestDecodeOneByte(t *testing.T) {
	c := cond.Cond{Branches: []cond.Branch{
		{Keys: []int{1, 2}, Lock: cond.Lock([]byte("a")), After: 300, Older: 5},
		{Keys: []int{0, 14, 15}, After: api.MaxHeight, Older: oldest},
	}}
	good := laid(c)
	for at := range good {
		for x := range 256 {
			b := slices.Clone(good)
			b[at] = byte(x)
			checkDecode(t, b)
		}
	}
}

// TestSame: CO2, a condition is the same as itself alone: any one thing that differs is told, also where it may not be.
func TestSame(t *testing.T) {
	l := few()
	base := cond.Branch{Keys: []int{1, 2}, Lock: sumOf(3, 4), After: 5, Older: 6}
	change := func(do func(b *cond.Branch)) {
		b := base
		do(&b)
		l = append(l, one(b))
	}
	change(func(b *cond.Branch) {})
	change(func(b *cond.Branch) { b.Keys = []int{2, 1} })
	change(func(b *cond.Branch) { b.Keys = []int{1, 2, 2} })
	change(func(b *cond.Branch) { b.Keys = []int{1} })
	change(func(b *cond.Branch) { b.Keys = []int{1, 3} })
	change(func(b *cond.Branch) { b.Keys = nil })
	change(func(b *cond.Branch) { b.Lock = sumOf(4, 4) })
	change(func(b *cond.Branch) { b.Lock = api.Hash{} })
	change(func(b *cond.Branch) { b.After = -5 })
	change(func(b *cond.Branch) { b.Older = -6 })
	change(func(b *cond.Branch) { b.After, b.Older = 6, 5 })
	l = append(l, cond.Or(cond.All(1), cond.All(2)), cond.Or(cond.All(2), cond.All(1)), cond.Or(cond.All(1), cond.All(1)), cond.All(1))
	for _, a := range l {
		for _, b := range l {
			if got, want := cond.Same(a, b), alike(a, b); got != want {
				t.Errorf("Same of %v and %v: %v, want %v", a, b, got, want)
			}
		}
		if !cond.Same(a, clone(a)) {
			t.Errorf("Same of %v and its like: false", a)
		}
	}
	if !cond.Same(cond.Cond{}, cond.Cond{Branches: []cond.Branch{}}) || !cond.Same(one(cond.Branch{}), one(cond.Branch{Keys: []int{}})) {
		t.Error("Same of nil and the empty list: false")
	}
}

// TestMore: CO3, what opens a branch opens it with more signatures, later, and when it is older, too.
func TestMore(t *testing.T) {
	more := []int{0, 1, 2, oldest, api.MaxHeight, math.MaxInt / 2}
	for _, c := range goodConds() {
		for at, b := range c.Branches {
			for _, secret := range [][]byte{nil, []byte("a")} {
				for _, by := range []int{-1, 0, 1} {
					s := cond.Seen{Signed: b.Keys, Secret: secret, Height: b.After + by, Age: b.Older + by}
					if cond.Opens(c, at, s) != nil {
						continue
					}
					for _, later := range more {
						for _, older := range more {
							for _, extra := range [][]int{nil, {0}, {15, 3}, upTo(16), strangers()} {
								m := cond.Seen{Signed: slices.Concat(extra, s.Signed), Secret: secret, Height: s.Height + later, Age: s.Age + older}
								wantErr(t, "more", cond.Opens(c, at, m), 0)
							}
						}
					}
				}
			}
		}
	}
}

// TestMoreOpens: CO3 is not empty: each branch that may be is opened by what it asks for, where its lock is none or known.
func TestMoreOpens(t *testing.T) {
	known := map[api.Hash][]byte{{}: nil, cond.Lock(nil): {}, cond.Lock([]byte("a")): []byte("a")}
	for _, c := range goodConds() {
		for at, b := range c.Branches {
			secret, ok := known[b.Lock]
			want := api.ErrHash
			if ok {
				want = 0
			}
			wantErr(t, "just what it asks for", cond.Opens(c, at, cond.Seen{Signed: b.Keys, Secret: secret, Height: b.After, Age: b.Older}), want)
		}
	}
}

// fill overwrites a list's items, and its spare room.
func fill[T any](l []T, x T) {
	l = l[:cap(l)]
	for i := range l {
		l[i] = x
	}
}

// roomy is a list with spare room behind it, filled with a number.
func roomy(l []int) []int {
	r := append(make([]int, 0, len(l)+4), l...)
	fill(r[len(r):], 77)
	return r
}

// TestMemoryKeys: rule 3, All changes and keeps none of the keys that are handed over.
func TestMemoryKeys(t *testing.T) {
	keys := roomy([]int{5, 3, 5, 1})
	c := cond.All(keys...)
	if !slices.Equal(keys[:8], []int{5, 3, 5, 1, 77, 77, 77, 77}) {
		t.Errorf("All changed its keys: %v", keys[:8])
	}
	fill(keys, 9)
	if !slices.Equal(c.Branches[0].Keys, []int{1, 3, 5}) {
		t.Errorf("All kept its keys: %v", c)
	}
	fill(c.Branches[0].Keys, 8)
	if keys[0] != 9 || keys[:8][7] != 9 {
		t.Errorf("All's answer shares its keys: %v", keys[:8])
	}
}

// TestMemoryOr: rule 3, Or's answer shares nothing with either condition, nor two of its lists with each other.
func TestMemoryOr(t *testing.T) {
	shared := roomy([]int{1, 2})
	a := cond.Cond{Branches: append(make([]cond.Branch, 0, 8), cond.Branch{Keys: shared}, cond.Branch{Keys: shared})}
	want := cond.Or(clone(a), clone(a))
	c := cond.Or(a, a)
	if len(a.Branches[:8][2].Keys) != 0 {
		t.Error("Or wrote behind a's branches")
	}
	for i := range c.Branches {
		keys := slices.Clone(c.Branches[i].Keys)
		fill(c.Branches[i].Keys, 50+i)
		copy(c.Branches[i].Keys, keys)
	}
	if !alike(c, want) || !slices.Equal(shared[:6], []int{1, 2, 77, 77, 77, 77}) {
		t.Errorf("lists share: %v, %v", c, shared[:6])
	}
	fill(shared, 9)
	fill(a.Branches, cond.Branch{Older: 3})
	if !alike(c, want) {
		t.Errorf("Or's answer changed with what was handed in: %v", c)
	}
	fill(c.Branches, cond.Branch{Older: 4})
	if a.Branches[0].Older != 3 {
		t.Error("what was handed in changed with Or's answer")
	}
}

// TestMemoryPut: rule 3, Put writes nothing into the bytes that are handed in, nor behind them, and the answer is its own.
func TestMemoryPut(t *testing.T) {
	b := append(make([]byte, 0, 200), 1, 2, 3)
	c := cond.All(4, 5)
	got := cond.Put(b, c)
	if !bytes.Equal(b[:200], append([]byte{1, 2, 3}, make([]byte, 197)...)) {
		t.Errorf("Put wrote behind its bytes: %v", b[:200])
	}
	want := slices.Clone(got)
	fill(b, 9)
	if !bytes.Equal(got, want) {
		t.Error("Put's answer changed with its bytes")
	}
	fill(got, 8)
	if b[0] != 9 || b[:200][199] != 9 || !alike(c, cond.All(4, 5)) {
		t.Error("what was handed in changed with Put's answer")
	}
}

// TestMemoryDecode: rule 3, Decode keeps none of its bytes, and no two lists of its answer share any.
func TestMemoryDecode(t *testing.T) {
	want := cond.Or(cond.All(1, 2, 3), cond.Or(cond.All(1), cond.All(0, 15)))
	b := laid(want)
	c, err := cond.Decode(b)
	wantErr(t, "Decode", err, 0)
	d, err := cond.Decode(b)
	wantErr(t, "Decode", err, 0)
	if !bytes.Equal(b, laid(want)) {
		t.Errorf("Decode changed its bytes: %v", b)
	}
	fill(b, 9)
	for i := range c.Branches {
		keys := slices.Clone(c.Branches[i].Keys)
		fill(c.Branches[i].Keys, 50+i)
		copy(c.Branches[i].Keys, keys)
	}
	if !alike(c, want) || !alike(d, want) {
		t.Errorf("answers share: %v, %v", c, d)
	}
}

// TestAskingChangesNothing: rules 3 and 4, whatever is asked, arguments stay, and the same answer comes again.
func TestAskingChangesNothing(t *testing.T) {
	for _, c := range slices.Concat(goodConds(), badConds()) {
		before := clone(c)
		s := cond.Seen{Signed: []int{9, 1, 1, -3}, Secret: []byte("a"), Height: 3, Age: 4}
		ask := func() []any {
			d, err := cond.Decode(laid(c))
			return []any{cond.Check(c), cond.Opens(c, 0, s), cond.Or(c, c), cond.Put(s.Secret, c), cond.Same(c, c), d, err}
		}
		first := ask()
		if !reflect.DeepEqual(first, ask()) {
			t.Errorf("asked again of %v: another answer", c)
		}
		if !alike(c, before) || !slices.Equal(s.Signed, []int{9, 1, 1, -3}) || string(s.Secret) != "a" {
			t.Errorf("asking changed %v", before)
		}
	}
}

// FuzzDecode: CO2, whatever the bytes are, they are a condition's that may be, laid again as they were, or ErrForm.
func FuzzDecode(f *testing.F) {
	for _, c := range few() {
		f.Add(laid(c))
	}
	f.Fuzz(checkDecode)
}
