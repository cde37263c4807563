package state_test

import (
	"bytes"
	"encoding/hex"
	"fmt"
	"math"
	"slices"
	"testing"

	"bayou/api"
	"bayou/blake"
	"bayou/state"
)

// laidUint is a number as layer 1's chapter lays it, written out here so that no bytes are held against the package that made them.
func laidUint(n uint64) []byte {
	var b []byte
	for ; n > 0; n /= 256 {
		b = append([]byte{byte(n % 256)}, b...)
	}
	return append([]byte{byte(len(b))}, b...)
}

// pieces are a state's bytes, number by number, and sum by sum, whether it may be or not; counts are the places at which stands how many come.
func pieces(s state.State) (l [][]byte, counts []int) {
	lay := func(n int) { l = append(l, laidUint(uint64(n))) }
	count := func(n int) {
		counts = append(counts, len(l))
		lay(n)
	}
	lay(s.Number)
	lay(s.Has[0])
	lay(s.Has[1])
	count(len(s.Pays))
	for _, p := range s.Pays {
		lay(p.ID)
		lay(p.From)
		lay(p.Amount)
		lay(p.After)
		l = append(l, p.Lock[:])
	}
	count(len(s.Holds))
	for _, h := range s.Holds {
		lay(h.ID)
		lay(h.Amount)
		count(len(h.Keys))
		for _, key := range h.Keys {
			lay(key)
		}
	}
	return l, counts
}

// laid is a state as bytes, whether it may be or not.
func laid(s state.State) []byte {
	l, _ := pieces(s)
	return bytes.Join(l, nil)
}

// ST4: bytes that are written by hand, the sums by another program's BLAKE2s.
func TestEncodeTold(t *testing.T) {
	lock := api.Hash{1, 2, 3, 31: 9}
	for _, x := range []struct {
		s    state.State
		want []byte
		sum  string
	}{
		{state.State{}, []byte{0, 0, 0, 0, 0}, "a39dcf416cf4db86105cc01493f502943e36fcd6d97c9ca75daf90638485c4a4"},
		{state.State{Number: 1, Has: [2]int{30, 70}}, []byte{1, 1, 1, 30, 1, 70, 0, 0}, "3d08206a7c82c1b20c76ab00dbcb2ae7707d66cebe74e22872f33a76149c2187"},
		{state.State{Number: 300, Has: [2]int{0, maxAmount}}, []byte{2, 1, 44, 0, 7, 4, 0, 0, 0, 0, 0, 0, 0, 0}, "6683c098c4ceb7a67f95e280fc41f14d728009033b0ec9cd908b8a2e857b8e5a"},
		{
			state.State{Has: [2]int{1, 2}, Pays: []state.Pay{{ID: 3, From: 1, Amount: 10, After: 256, Lock: lock}}},
			slices.Concat([]byte{0, 1, 1, 1, 2, 1, 1, 1, 3, 1, 1, 1, 10, 2, 1, 0}, lock[:], []byte{0}), "571af6eff6a53c215ecbc1126a744cca47335c87b5c0fb4d74734e3520fbe646",
		},
		{
			state.State{Holds: []state.Hold{{ID: 4, Amount: 11, Keys: []int{0, 5}}, {ID: 6, Amount: 12, Keys: []int{15}}}},
			[]byte{0, 0, 0, 0, 1, 2, 1, 4, 1, 11, 1, 2, 0, 1, 5, 1, 6, 1, 12, 1, 1, 1, 15}, "179a9d1d24ec2579fc772a08bd058c5135505dcb4640160e14bc73b16e6b17d1",
		},
		{
			state.State{Number: -1, Has: [2]int{-2, math.MinInt}},
			[]byte{8, 255, 255, 255, 255, 255, 255, 255, 255, 8, 255, 255, 255, 255, 255, 255, 255, 254, 8, 128, 0, 0, 0, 0, 0, 0, 0, 0, 0}, "29ea1d81555e335a4261cf145c1e39f2da773a3d89448c0233e975197cb3d3c8",
		},
	} {
		if b := state.Encode(x.s); !bytes.Equal(b, x.want) {
			t.Errorf("Encode of %v: %v, want %v", x.s, b, x.want)
		}
		h := state.Sum(x.s)
		if got := hex.EncodeToString(h[:]); got != x.sum {
			t.Errorf("Sum of %v: %s, want %s", x.s, got, x.sum)
		}
	}
}

// ST4: there and back.
func TestEncodeEach(t *testing.T) {
	last := base()
	last.Number = maxHeight
	for _, s := range append(goodStates(), named{"base", base()}, named{"the last number", last}) {
		ahead := clone(s.State)
		b := state.Encode(s.State)
		if want := laid(s.State); !bytes.Equal(b, want) {
			t.Errorf("Encode: %s: %v, want %v", s.name, b, want)
		}
		got, err := state.Decode(b)
		wantErr(t, "Decode: "+s.name, err, 0)
		wantState(t, "Decode: "+s.name, got, s.State)
		if !bytes.Equal(b, laid(s.State)) || !same(s.State, ahead) {
			t.Errorf("%s: what was handed in was changed", s.name)
		}
	}
}

// ST4: states that may not be are laid, too, and have a sum; their bytes are no state.
func TestEncodeMayNotBe(t *testing.T) {
	for _, s := range badStates() {
		b, want := state.Encode(s.State), laid(s.State)
		if !bytes.Equal(b, want) {
			t.Errorf("Encode: %s: %v, want %v", s.name, b[:min(len(b), 100)], want[:min(len(want), 100)])
		}
		if state.Sum(s.State) != blake.Sum(want) {
			t.Errorf("Sum: %s: it is not that of its bytes", s.name)
		}
		wantForm(t, s.name, want)
	}
}

// ST4: Sum is that of the bytes, and that of each state its own.
func TestSum(t *testing.T) {
	seen := map[api.Hash]string{}
	for _, s := range append(goodStates(), badStates()...) {
		h := state.Sum(s.State)
		if h != blake.Sum(laid(s.State)) {
			t.Errorf("Sum: %s: it is not that of its bytes", s.name)
		}
		text := fmt.Sprint(s.State)
		if other, ok := seen[h]; ok && other != text {
			t.Errorf("Sum: %s: that of another state: %s", text, other)
		}
		seen[h] = text
	}
}

// wantForm: bytes that are no state.
func wantForm(t *testing.T, what string, b []byte) {
	t.Helper()
	ahead := bytes.Clone(b)
	s, err := state.Decode(b)
	wantErr(t, "Decode: "+what, err, api.ErrForm)
	if !isZero(s) {
		t.Errorf("Decode: %s: %v beside an error", what, s)
	}
	if !bytes.Equal(b, ahead) {
		t.Errorf("Decode: %s: the bytes were changed", what)
	}
}

// ST4: bytes that are cut off at each place, and with one more.
func TestDecodeCut(t *testing.T) {
	for _, s := range goodStates() {
		b := laid(s.State)
		for n := range b {
			wantForm(t, fmt.Sprintf("%d bytes of %s", n, s.name), b[:n])
		}
		for x := range 256 {
			wantForm(t, fmt.Sprintf("%s and a byte %d", s.name, x), append(bytes.Clone(b), byte(x)))
		}
		wantForm(t, s.name+" twice", append(bytes.Clone(b), b...))
		for n := 1; n < len(b); n++ {
			decodeOne(t, b[n:])
		}
	}
	wantForm(t, "nil", nil)
	wantForm(t, "none", []byte{})
	wantForm(t, "many noughts", make([]byte, 1<<20))
	wantForm(t, "many of 255", bytes.Repeat([]byte{255}, 1<<20))
}

// ST4: a number that is laid longer than it need be, at each place.
func TestDecodeLonger(t *testing.T) {
	for _, s := range append(goodStates(), named{"base", base()}) {
		l, _ := pieces(s.State)
		for i, piece := range l {
			if int(piece[0]) != len(piece)-1 {
				continue // a sum
			}
			for more := 1; len(piece)+more <= 9; more++ {
				c := slices.Clone(l)
				c[i] = slices.Concat([]byte{piece[0] + byte(more)}, make([]byte, more), piece[1:])
				wantForm(t, fmt.Sprintf("%s: place %d with %d noughts", s.name, i, more), bytes.Join(c, nil))
			}
			c := slices.Clone(l)
			c[i] = slices.Concat([]byte{9}, make([]byte, 10-len(piece)), piece[1:])
			wantForm(t, fmt.Sprintf("%s: place %d of nine bytes", s.name, i), bytes.Join(c, nil))
		}
	}
}

// ST4: bytes that say falsely how many payments, holds or keys there are.
func TestDecodeCounts(t *testing.T) {
	for _, s := range append(goodStates(), named{"base", base()}) {
		l, counts := pieces(s.State)
		for _, at := range counts {
			for _, n := range []uint64{0, 1, 2, 3, 4, 5, 6, 7, 8, 9, 15, 16, 17, 255, 256, 1 << 20, 1 << 31, 1 << 32, 1<<63 - 1, 1 << 63, math.MaxUint64} {
				c := slices.Clone(l)
				c[at] = laidUint(n)
				if bytes.Equal(c[at], l[at]) {
					continue
				}
				// Fewer of something may be bytes of another state by chance, but not here.
				wantForm(t, fmt.Sprintf("%s: %d at place %d", s.name, n, at), bytes.Join(c, nil))
			}
		}
	}
}

// ST4: each number at what it can't be, though an int holds it or holds what it wraps round to.
func TestDecodeNumbers(t *testing.T) {
	s := base()
	l, counts := pieces(s)
	for i, piece := range l {
		if int(piece[0]) != len(piece)-1 || slices.Contains(counts, i) {
			continue
		}
		for _, n := range []uint64{maxAmount + 1, 1 << 62, 1<<63 - 1, 1 << 63, 1<<63 + 20, math.MaxUint64 - 1, math.MaxUint64} {
			c := slices.Clone(l)
			c[i] = laidUint(n)
			wantForm(t, fmt.Sprintf("%d at place %d", n, i), bytes.Join(c, nil))
		}
	}
}

// ST4: numbers, and sums, that are away, or there twice.
func TestDecodePieces(t *testing.T) {
	for _, s := range []state.State{base(), {Has: [2]int{3, 4}}, {Pays: pays(3)}, {Holds: holds(3)}} {
		l, _ := pieces(s)
		for i := range l {
			decodeOne(t, bytes.Join(slices.Concat(l[:i], l[i+1:]), nil))
			decodeOne(t, bytes.Join(slices.Concat(l[:i+1], l[i:]), nil))
			for j := range i {
				c := slices.Clone(l)
				c[i], c[j] = c[j], c[i]
				decodeOne(t, bytes.Join(c, nil))
			}
		}
	}
}

// ST4: a bit of a state's bytes that is turned makes other bytes: either of no state, or of another one.
func TestDecodeBits(t *testing.T) {
	for _, s := range append(goodStates(), named{"base", base()}) {
		b := laid(s.State)
		for k := range 8 * len(b) {
			c := bytes.Clone(b)
			c[k/8] ^= 1 << (k % 8)
			decodeOne(t, c)
		}
	}
}

// decodeOne holds Decode against what it answers: bytes that are a state are just those that are laid of it.
func decodeOne(t *testing.T, b []byte) {
	t.Helper()
	s, err := state.Decode(b)
	if err != nil {
		wantErr(t, fmt.Sprint("Decode of ", b), err, api.ErrForm)
		if !isZero(s) {
			t.Errorf("Decode of %v: %v beside an error", b, s)
		}
		return
	}
	if !mayBe(s) {
		t.Errorf("Decode of %v: %v, which may not be", b, s)
	}
	if !bytes.Equal(laid(s), b) || !bytes.Equal(state.Encode(s), b) {
		t.Errorf("Decode of %v: %v, which is laid otherwise", b, s)
	}
}

// Rule 3: nil and the empty list have the same bytes.
func TestEncodeEmpty(t *testing.T) {
	a, b := state.State{Has: [2]int{1, 2}}, state.State{Has: [2]int{1, 2}, Pays: []state.Pay{}, Holds: []state.Hold{}}
	if !bytes.Equal(state.Encode(a), state.Encode(b)) || state.Sum(a) != state.Sum(b) {
		t.Errorf("nil and the empty list differ: %v, %v", state.Encode(a), state.Encode(b))
	}
	c := state.State{Holds: []state.Hold{{ID: 1, Amount: 20}}}
	d := state.State{Holds: []state.Hold{{ID: 1, Amount: 20, Keys: []int{}}}}
	if !bytes.Equal(state.Encode(c), state.Encode(d)) {
		t.Errorf("no keys differ: %v, %v", state.Encode(c), state.Encode(d))
	}
}

// Rule 3: bytes and states that are handed in are not changed and not kept; what is told is new memory, of which no two lists share any.
func TestMemoryBytes(t *testing.T) {
	for _, s := range append(goodStates(), named{"base", base()}, badStates()[0]) {
		in := roomy(s.State)
		ahead, want := clone(whole(in)), laid(s.State)
		one, two := state.Encode(in), state.Encode(in)
		for i := range one[:cap(one)] {
			one[:cap(one)][i] = 77
		}
		if !same(whole(in), ahead) || !bytes.Equal(two, want) {
			t.Errorf("%s: Encode", s.name)
		}
		spoil(in)
		spoilHolds(in)
		if !bytes.Equal(two, want) {
			t.Errorf("%s: a change of what was handed in changed what Encode told", s.name)
		}
	}
	for _, s := range append(goodStates(), named{"base", base()}) {
		b := append(laid(s.State), 1, 2, 3)[:len(laid(s.State))]
		kept := bytes.Clone(b[:len(b)+3])
		one, err := state.Decode(b)
		wantErr(t, "Decode: "+s.name, err, 0)
		two, _ := state.Decode(b)
		if spoil(one) {
			t.Errorf("%s: Decode: two lists of keys share memory", s.name)
		}
		spoilHolds(one)
		if !bytes.Equal(b[:len(b)+3], kept) {
			t.Errorf("%s: Decode: the bytes were changed", s.name)
		}
		clear(b[:len(b)+3])
		wantState(t, "Decode: "+s.name, two, s.State)
	}
}

// FuzzDecode: any bytes.
func FuzzDecode(f *testing.F) {
	for _, s := range goodStates() {
		f.Add(laid(s.State))
	}
	f.Add([]byte{0, 0, 0, 1})
	f.Add([]byte{0, 0, 0, 0, 1, 1, 0, 1, 10, 1, 1, 0})
	f.Fuzz(decodeOne)
}
