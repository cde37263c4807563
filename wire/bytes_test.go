package wire_test

import (
	"bytes"
	"fmt"
	"math"
	"math/big"
	"slices"
	"testing"

	"bayou/api"
	"bayou/state"
	"bayou/wire"
)

// laidInt is an int as layer 1's chapter lays it, written out here so that no bytes are held against the package that made them.
func laidInt(n int) []byte {
	m, first, step, turn := big.NewInt(int64(n)), 128, 1, byte(0)
	if n < 0 {
		m, first, step, turn = m.Sub(big.NewInt(-1), m), 127, -1, 255
	}
	digits := m.Bytes()
	b := []byte{byte(first + step*len(digits))}
	for _, x := range digits {
		b = append(b, x^turn)
	}
	return b
}

// laidBytes are bytes as layer 1's chapter lays them.
func laidBytes(b []byte) []byte {
	return append(bytes.ReplaceAll(b, []byte{0}, []byte{0, 255}), 0, 0)
}

// opPieces are what is done as bytes, thing by thing.
func opPieces(o wire.Op) [][]byte {
	p := o.Pay
	return [][]byte{
		laidInt(o.Kind), laidInt(o.Amount), laidInt(o.ID),
		laidInt(p.ID), laidInt(p.From), laidInt(p.Amount), laidInt(p.After), bytes.Clone(p.Lock[:]),
		laidBytes(o.Secret),
	}
}

// The places of what is no int among the pieces.
const (
	opLock, opSecret         = 7, 8
	msgOp, msgLock, msgOther = 2, 3, 4
)

// laidOp is what is done as bytes.
func laidOp(o wire.Op) []byte { return bytes.Join(opPieces(o), nil) }

// msgPieces are a message as bytes, thing by thing.
func msgPieces(m wire.Msg) [][]byte {
	return [][]byte{laidInt(m.Kind), laidInt(m.Number), laidBytes(laidOp(m.Op)), bytes.Clone(m.Lock[:]), laidBytes(m.Secret)}
}

// laid is a message as bytes.
func laid(m wire.Msg) []byte { return bytes.Join(msgPieces(m), nil) }

// taker takes things off bytes by the words of layer 1's chapter; bad tells that one was not there.
type taker struct {
	left []byte
	bad  bool
}

// cut takes so many bytes off.
func (k *taker) cut(n int) []byte {
	if k.bad || len(k.left) < n {
		k.bad = true
		return make([]byte, n)
	}
	b := k.left[:n]
	k.left = k.left[n:]
	return b
}

// int takes an int off.
func (k *taker) int() int {
	first := int(k.cut(1)[0])
	if !from(119, first, 136) {
		k.bad = true
		return 0
	}
	wide, turn := first-128, byte(0)
	if first < 128 {
		wide, turn = 127-first, 255
	}
	digits := bytes.Clone(k.cut(wide))
	for i := range digits {
		digits[i] ^= turn
	}
	n := new(big.Int).SetBytes(digits)
	if wide > 0 && digits[0] == 0 || n.BitLen() > 63 {
		k.bad = true
		return 0
	}
	if first < 128 {
		n.Sub(big.NewInt(-1), n)
	}
	return int(n.Int64())
}

// bytes takes bytes off.
func (k *taker) bytes(most int) []byte {
	var out []byte
	for !k.bad {
		x := k.cut(1)[0]
		if x == 0 {
			switch k.cut(1)[0] {
			case 0:
				k.bad = k.bad || len(out) > most
				return out
			case 255:
			default:
				k.bad = true
			}
		}
		out = append(out, x)
	}
	return nil
}

// takenOp is what bytes do, by the words of the chapter.
func takenOp(b []byte) (wire.Op, bool) {
	k := &taker{left: b}
	o := wire.Op{Kind: k.int(), Amount: k.int(), ID: k.int()}
	o.Pay = state.Pay{ID: k.int(), From: k.int(), Amount: k.int(), After: k.int(), Lock: api.Hash(k.cut(32))}
	o.Secret = k.bytes(maxSecret)
	if k.bad || len(k.left) > 0 {
		return wire.Op{}, false
	}
	return o, true
}

// taken is the message of bytes, by the words of the chapter.
func taken(b []byte) (wire.Msg, bool) {
	k := &taker{left: b}
	m := wire.Msg{Kind: k.int(), Number: k.int()}
	o, ok := takenOp(k.bytes(maxOp))
	m.Op, m.Lock = o, api.Hash(k.cut(32))
	m.Secret = k.bytes(maxSecret)
	if k.bad || len(k.left) > 0 || !ok || !from(1, m.Kind, 5) {
		return wire.Msg{}, false
	}
	return m, true
}

// decodeOp holds DecodeOp against the words of the chapter; it tells whether the bytes are something that is done.
func decodeOp(t *testing.T, b []byte) bool {
	t.Helper()
	ahead := bytes.Clone(b)
	got, err := wire.DecodeOp(b)
	want, ok := takenOp(ahead)
	no := api.ErrForm
	if ok {
		no = 0
	}
	if !is(err, no) || !sameOp(got, want) || !bytes.Equal(b, ahead) {
		t.Errorf("DecodeOp of %v: %s, %v, want %s, %v", ahead, tell(got), err, tell(want), no)
	}
	if ok && (!bytes.Equal(wire.EncodeOp(got), ahead) || len(got.Secret) > maxSecret) {
		t.Errorf("DecodeOp of %v: %s, which is laid otherwise", ahead, tell(got))
	}
	return ok
}

// decode holds Decode against the words of the chapter; it tells whether the bytes are a message.
func decode(t *testing.T, b []byte) bool {
	t.Helper()
	ahead := bytes.Clone(b)
	got, err := wire.Decode(b)
	want, ok := taken(ahead)
	no := api.ErrForm
	if ok {
		no = 0
	}
	if !is(err, no) || !sameMsg(got, want) || !bytes.Equal(b, ahead) {
		t.Errorf("Decode of %v: %v, %v, want %v, %v", ahead, got, err, want, no)
	}
	if ok && (!bytes.Equal(wire.Encode(got), ahead) || len(got.Secret) > maxSecret || !from(1, got.Kind, 5)) {
		t.Errorf("Decode of %v: %v, which is laid otherwise", ahead, got)
	}
	return ok
}

// wantOpForm: bytes that do nothing.
func wantOpForm(t *testing.T, what string, b []byte) {
	t.Helper()
	if decodeOp(t, b) {
		t.Errorf("DecodeOp: %s: it was taken", what)
	}
}

// wantForm: bytes that are no message.
func wantForm(t *testing.T, what string, b []byte) {
	t.Helper()
	if decode(t, b) {
		t.Errorf("Decode: %s: it was taken", what)
	}
}

// lock is a sum with noughts in it.
func lock(n byte) api.Hash { return api.Hash{n, 0, 255, 31: n} }

// goodOps are things that are done, of all kinds and of none, that bytes can hold.
func goodOps() []wire.Op {
	l := []wire.Op{
		{},
		doMove(20),
		doAdd(state.Pay{ID: 300, From: 1, Amount: 10, After: 0, Lock: lock(9)}),
		doSettle(7, []byte("secret")),
		doFail(0),
		{Kind: 5, Secret: []byte{}},
		{Kind: -1, Amount: -2, ID: -257, Pay: state.Pay{ID: -3, From: -4, Amount: -300, After: -65536}, Secret: []byte{0}},
		{Kind: math.MaxInt, Amount: math.MinInt, ID: math.MaxInt, Pay: state.Pay{ID: math.MinInt, From: math.MaxInt, Amount: math.MinInt, After: math.MaxInt, Lock: lock(1)}, Secret: []byte{0, 0, 255, 255, 0}},
		{Kind: kindAdd, Amount: maxAmount, ID: maxID, Pay: state.Pay{ID: maxID, From: 1, Amount: maxAmount, After: maxHeight, Lock: api.Hash{31: 1}}, Secret: []byte{255}},
		longest(),
	}
	for _, n := range []int{1, 31, 32, 63, 64} {
		l = append(l, doSettle(n, bytes.Repeat([]byte{0}, n)), doSettle(n, bytes.Repeat([]byte{byte(n)}, n)), doSettle(n, bytes.Repeat([]byte{255}, n)))
	}
	for _, n := range edges() {
		l = append(l, wire.Op{Kind: n}, wire.Op{Amount: n}, wire.Op{ID: n}, wire.Op{Pay: state.Pay{ID: n}}, wire.Op{Pay: state.Pay{From: n}}, wire.Op{Pay: state.Pay{Amount: n}}, wire.Op{Pay: state.Pay{After: n}})
	}
	return l
}

// longest is what has the most bytes of all that may be laid, and, with a nought wherever one can be, far more than that within a message.
func longest() wire.Op {
	const n = 1 << 56
	return wire.Op{Kind: n, Amount: n, ID: n, Pay: state.Pay{ID: n, From: n, Amount: n, After: n}, Secret: make([]byte, maxSecret)}
}

// goodMsgs are messages that bytes can hold.
func goodMsgs() []wire.Msg {
	var l []wire.Msg
	for i, o := range goodOps() {
		l = append(l, wire.Msg{Kind: i%5 + 1, Number: i, Op: o, Lock: lock(byte(i)), Secret: bytes.Repeat([]byte{byte(i % 3)}, i%65)})
	}
	for kind := 1; kind <= 5; kind++ {
		l = append(l, wire.Msg{Kind: kind}, wire.Msg{Kind: kind, Number: maxHeight, Op: doMove(3), Lock: lock(3), Secret: make([]byte, maxSecret)})
	}
	for _, n := range edges() {
		l = append(l, wire.Msg{Kind: 3, Number: n})
	}
	return l
}

// few are some of these.
func few[T any](l []T) []T { return l[:min(len(l), 16)] }

// noughts are so many bytes 0.
func noughts(n int) []byte { return make([]byte, n) }

// WI2: bytes that are written by hand.
func TestEncodeTold(t *testing.T) {
	h := lock(9)
	for _, x := range []struct {
		o    wire.Op
		want []byte
	}{
		{wire.Op{}, slices.Concat([]byte{128, 128, 128, 128, 128, 128, 128}, noughts(32), []byte{0, 0})},
		{doMove(20), slices.Concat([]byte{129, 1, 129, 20, 128, 128, 128, 128, 128}, noughts(32), []byte{0, 0})},
		{doAdd(state.Pay{ID: 300, From: 1, Amount: 10, After: 65536, Lock: h}), slices.Concat([]byte{129, 2, 128, 128, 130, 1, 44, 129, 1, 129, 10, 131, 1, 0, 0}, h[:], []byte{0, 0})},
		{doSettle(256, []byte{7, 0, 8}), slices.Concat([]byte{129, 3, 128, 130, 1, 0, 128, 128, 128, 128}, noughts(32), []byte{7, 0, 255, 8, 0, 0})},
		{doFail(-1), slices.Concat([]byte{129, 4, 128, 127, 128, 128, 128, 128}, noughts(32), []byte{0, 0})},
		{
			wire.Op{Kind: -2, Amount: -256, ID: -257, Pay: state.Pay{ID: -300, From: -1, Amount: math.MinInt, After: math.MaxInt}},
			slices.Concat([]byte{126, 254, 126, 0, 125, 254, 255, 125, 254, 212, 127, 119, 128, 0, 0, 0, 0, 0, 0, 0, 136, 127, 255, 255, 255, 255, 255, 255, 255}, noughts(32), []byte{0, 0}),
		},
	} {
		if b := wire.EncodeOp(x.o); !bytes.Equal(b, x.want) {
			t.Errorf("EncodeOp of %s: %v, want %v", tell(x.o), b, x.want)
		}
		if !bytes.Equal(laidOp(x.o), x.want) {
			t.Errorf("the plain rule: %s: %v, want %v", tell(x.o), laidOp(x.o), x.want)
		}
	}
	m := wire.Msg{Kind: 3, Number: 300, Op: doAdd(state.Pay{ID: 256, From: 1, Amount: 10, Lock: h}), Lock: lock(4), Secret: []byte{0, 5}}
	want := []byte{129, 3, 130, 1, 44} // and the Op, whose noughts are marked
	want = append(want, 129, 2, 128, 128, 130, 1, 0, 255, 129, 1, 129, 10, 128)
	want = append(want, 9, 0, 255, 255)
	want = append(want, bytes.Repeat([]byte{0, 255}, 28)...)
	want = append(want, 9, 0, 255, 0, 255, 0, 0)
	want = append(want, 4, 0, 255)
	want = append(want, noughts(28)...)
	want = append(want, 4, 0, 255, 5, 0, 0)
	if b := wire.Encode(m); !bytes.Equal(b, want) || !bytes.Equal(laid(m), want) {
		t.Errorf("Encode of %v: %v, %v, want %v", m, b, laid(m), want)
	}
	m = wire.Msg{Kind: -1, Number: -256}
	want = slices.Concat([]byte{127, 126, 0}, bytes.Repeat([]byte{128}, 7), bytes.Repeat([]byte{0, 255}, 34), noughts(36))
	if b := wire.Encode(m); !bytes.Equal(b, want) {
		t.Errorf("Encode of %v: %v, want %v", m, b, want)
	}
}

// WI2: there and back.
func TestEncodeEach(t *testing.T) {
	for _, o := range goodOps() {
		ahead := cloneOp(o)
		b := wire.EncodeOp(o)
		if want := laidOp(ahead); !bytes.Equal(b, want) || !sameOp(o, ahead) {
			t.Errorf("EncodeOp of %s: %v, want %v", tell(ahead), b, want)
		}
		got, err := wire.DecodeOp(b)
		wantErr(t, "DecodeOp: "+tell(ahead), err, 0)
		if !sameOp(got, ahead) {
			t.Errorf("DecodeOp: %s, want %s", tell(got), tell(ahead))
		}
		decodeOp(t, b)
	}
	for _, m := range goodMsgs() {
		ahead := cloneMsg(m)
		b := wire.Encode(m)
		if want := laid(ahead); !bytes.Equal(b, want) || !sameMsg(m, ahead) {
			t.Errorf("Encode of %v: %v, want %v", ahead, b, want)
		}
		got, err := wire.Decode(b)
		wantErr(t, fmt.Sprint("Decode of ", ahead), err, 0)
		if !sameMsg(got, ahead) {
			t.Errorf("Decode: %v, want %v", got, ahead)
		}
		decode(t, b)
	}
}

// WI2: secrets of none, 64, 65 and more bytes are laid; those of more than 64 are not taken off.
func TestSecrets(t *testing.T) {
	for _, x := range []byte{0, 1, 254, 255} {
		for _, n := range []int{0, 1, 2, 63, 64, 65, 66, 127, 128, 129, 255, 256, 257, 1 << 16} {
			secret := bytes.Repeat([]byte{x}, n)
			what := fmt.Sprintf("a secret of %d bytes %d", n, x)
			o := wire.Op{Kind: kindSettle, ID: 4, Secret: secret}
			in, beside := wire.Msg{Kind: 1, Op: o}, wire.Msg{Kind: 4, Secret: secret}
			if !bytes.Equal(wire.EncodeOp(o), laidOp(o)) || !bytes.Equal(wire.Encode(in), laid(in)) || !bytes.Equal(wire.Encode(beside), laid(beside)) {
				t.Errorf("%s is not laid so", what)
			}
			may := n <= 64
			if decodeOp(t, laidOp(o)) != may || decode(t, laid(in)) != may || decode(t, laid(beside)) != may {
				t.Errorf("%s: taken off: want %v", what, may)
			}
		}
	}
}

// WI2: bytes that are shorter, at their end and at their beginning.
func TestDecodeCut(t *testing.T) {
	for _, o := range goodOps() {
		b := laidOp(o)
		for n := range b {
			wantOpForm(t, fmt.Sprintf("%d bytes of %s", n, tell(o)), b[:n])
			decodeOp(t, b[n:])
		}
	}
	for _, m := range few(goodMsgs()) {
		b := laid(m)
		for n := range b {
			wantForm(t, fmt.Sprintf("%d bytes of %v", n, m), b[:n])
			decode(t, b[n:])
		}
		op := laidOp(m.Op)
		for n := range op {
			l := msgPieces(m)
			l[msgOp] = laidBytes(op[:n])
			wantForm(t, fmt.Sprintf("%d bytes of the Op of %v", n, m), bytes.Join(l, nil))
		}
	}
	for _, b := range [][]byte{nil, {}, noughts(1 << 20), bytes.Repeat([]byte{255}, 1<<20), bytes.Repeat([]byte{128}, 1<<20)} {
		wantOpForm(t, "none, or many", b)
		wantForm(t, "none, or many", b)
	}
}

// WI2: bytes with some more behind them.
func TestDecodeMore(t *testing.T) {
	for _, o := range goodOps() {
		b := laidOp(o)
		for x := range 256 {
			wantOpForm(t, fmt.Sprintf("%s and a byte %d", tell(o), x), append(bytes.Clone(b), byte(x)))
		}
		wantOpForm(t, tell(o)+" twice", append(bytes.Clone(b), b...))
		wantOpForm(t, tell(o)+" and many", append(bytes.Clone(b), noughts(1<<16)...))
	}
	for _, m := range few(goodMsgs()) {
		b := laid(m)
		l := msgPieces(m)
		for x := range 256 {
			wantForm(t, fmt.Sprintf("%v and a byte %d", m, x), append(bytes.Clone(b), byte(x)))
			l[msgOp] = laidBytes(append(laidOp(m.Op), byte(x)))
			wantForm(t, fmt.Sprintf("%v and a byte %d in its Op", m, x), bytes.Join(l, nil))
		}
		wantForm(t, fmt.Sprint(m, " twice"), append(bytes.Clone(b), b...))
	}
}

// WI2: each byte at each other value: other bytes, which are none, or something else.
func TestDecodeChanged(t *testing.T) {
	for _, o := range few(goodOps()) {
		b := laidOp(o)
		for i, was := range b {
			for x := range 256 {
				b[i] = byte(x)
				decodeOp(t, b)
			}
			b[i] = was
		}
	}
	for _, m := range few(goodMsgs())[1:9] {
		b := laid(m)
		for i, was := range b {
			for x := range 256 {
				b[i] = byte(x)
				decode(t, b)
			}
			b[i] = was
		}
	}
}

// longer are an int's bytes with needless ones ahead of them, which stand for 0, and others that no int has.
func longer(n int) [][]byte {
	b := laidInt(n)
	wide := len(b) - 1
	first, step, turn := 128, 1, byte(0)
	if n < 0 {
		first, step, turn = 127, -1, 255
	}
	var l [][]byte
	for w := wide + 1; w <= 10; w++ {
		l = append(l, slices.Concat([]byte{byte(first + step*w)}, bytes.Repeat([]byte{turn}, w-wide), b[1:]))
	}
	l = append(l, slices.Concat([]byte{byte(first + step*8)}, []byte{128 ^ turn}, bytes.Repeat([]byte{turn}, 7)))
	l = append(l, slices.Concat([]byte{byte(first + step*8)}, bytes.Repeat([]byte{^turn}, 8)))
	return append(l, []byte{118}, []byte{137}, []byte{0}, []byte{255}, []byte{byte(wide)})
}

// WI2: numbers that are not laid as layer 1 lays them, at each place.
func TestDecodeLonger(t *testing.T) {
	for _, o := range goodOps() {
		numbers := []int{o.Kind, o.Amount, o.ID, o.Pay.ID, o.Pay.From, o.Pay.Amount, o.Pay.After}
		l := opPieces(o)
		for i, n := range numbers {
			was := l[i]
			for _, piece := range longer(n) {
				l[i] = piece
				b := bytes.Join(l, nil)
				wantOpForm(t, fmt.Sprintf("%s: %v at place %d", tell(o), piece, i), b)
				m := msgPieces(wire.Msg{Kind: 1})
				m[msgOp] = laidBytes(b)
				wantForm(t, fmt.Sprintf("%s: %v at place %d of the Op", tell(o), piece, i), bytes.Join(m, nil))
			}
			l[i] = was
		}
	}
	for _, m := range goodMsgs() {
		l := msgPieces(m)
		for i, n := range []int{m.Kind, m.Number} {
			was := l[i]
			for _, piece := range longer(n) {
				l[i] = piece
				wantForm(t, fmt.Sprintf("%v: %v at place %d", m, piece, i), bytes.Join(l, nil))
			}
			l[i] = was
		}
	}
}

// WI2: bytes of a secret, and of an Op, that are not laid as layer 1 lays them.
func TestDecodeBytes(t *testing.T) {
	l, m := opPieces(doFail(2)), msgPieces(wire.Msg{Kind: 2})
	for x := 1; x < 255; x++ {
		for _, bad := range [][]byte{{0, byte(x), 0, 0}, {7, 0, byte(x), 0, 0}, {0, 255, 0, byte(x), 0, 0}} {
			l[opSecret], m[msgOther] = bad, bad
			wantOpForm(t, fmt.Sprint("a secret ", bad), bytes.Join(l, nil))
			wantForm(t, fmt.Sprint("a secret ", bad), bytes.Join(m, nil))
		}
		c := msgPieces(wire.Msg{Kind: 2})
		c[msgOp] = append(bytes.TrimSuffix(c[msgOp], []byte{0, 0}), 0, byte(x), 0, 0)
		wantForm(t, fmt.Sprintf("an Op with %d behind a 0", x), bytes.Join(c, nil))
	}
	for _, bad := range [][]byte{nil, {0}, {1}, {0, 255}, {0, 255, 0}, {1, 2, 3}, {255, 255}} {
		l[opSecret], m[msgOther] = bad, bad
		wantOpForm(t, fmt.Sprint("a secret ", bad), bytes.Join(l, nil))
		wantForm(t, fmt.Sprint("a secret ", bad), bytes.Join(m, nil))
	}
}

// WI2: things that are away, there twice, or in another's place.
func TestDecodePieces(t *testing.T) {
	turn := func(l [][]byte, look func(b []byte)) {
		for i := range l {
			look(bytes.Join(slices.Concat(l[:i], l[i+1:]), nil))
			look(bytes.Join(slices.Concat(l[:i+1], l[i:]), nil))
			for j := range i {
				c := slices.Clone(l)
				c[i], c[j] = c[j], c[i]
				look(bytes.Join(c, nil))
			}
		}
	}
	for _, o := range few(goodOps()) {
		turn(opPieces(o), func(b []byte) { decodeOp(t, b) })
	}
	for _, m := range few(goodMsgs()) {
		turn(msgPieces(m), func(b []byte) { decode(t, b) })
	}
	l := opPieces(doFail(2))
	l[opLock] = l[opLock][1:]
	wantOpForm(t, "a lock of 31 bytes", bytes.Join(l, nil))
	m := msgPieces(wire.Msg{Kind: 2})
	m[msgLock] = append(m[msgLock], 1)
	decode(t, bytes.Join(m, nil))
}

// WI2: an Op of so many bytes, that begin as one does, and of others.
func TestDecodeOpLength(t *testing.T) {
	l := msgPieces(wire.Msg{Kind: 1})
	for n := range 300 {
		for _, ahead := range [][]byte{nil, laidOp(wire.Op{}), laidOp(longest())} {
			for _, x := range []byte{0, 1, 128, 255} {
				op := append(bytes.Clone(ahead), bytes.Repeat([]byte{x}, n)...)
				l[msgOp] = laidBytes(op)
				if decode(t, bytes.Join(l, nil)) != (n == 0 && ahead != nil) {
					t.Errorf("an Op of %d bytes, %d of them %d", len(op), n, x)
				}
			}
		}
	}
	for _, n := range []int{maxOp, maxOp + 1} {
		o := longest()
		o.Secret = append(o.Secret, bytes.Repeat([]byte{1}, n-len(laidOp(o)))...) // nothing else can grow
		if len(laidOp(o)) != n {
			t.Fatalf("an Op of %d bytes, want %d", len(laidOp(o)), n)
		}
		l[msgOp] = laidBytes(laidOp(o))
		wantForm(t, fmt.Sprintf("an Op of %d bytes, with a secret that is too long", n), bytes.Join(l, nil))
	}
	for _, n := range []int{1 << 16, 1 << 20} {
		l[msgOp] = laidBytes(bytes.Repeat([]byte{128}, n))
		wantForm(t, fmt.Sprint("an Op of ", n), bytes.Join(l, nil))
	}
}

// WI2: the longest Op that there is is taken off, though its bytes are more than 256 as a message has them.
func TestDecodeLongest(t *testing.T) {
	o := longest()
	if n := len(laidOp(o)); n != 225 {
		t.Fatalf("it has %d bytes", n)
	}
	if n := len(laidBytes(laidOp(o))); n <= maxOp {
		t.Fatalf("it has %d bytes within a message", n)
	}
	m := wire.Msg{Kind: 5, Number: math.MinInt, Op: o, Lock: lock(0), Secret: make([]byte, maxSecret)}
	got, err := wire.Decode(wire.Encode(m))
	wantErr(t, "Decode", err, 0)
	if !sameMsg(got, m) {
		t.Errorf("Decode: %v, want %v", got, m)
	}
}

// WI2: kinds of messages: those from 1 to 5 alone; of what is done any, as Do has these.
func TestDecodeKinds(t *testing.T) {
	for _, kind := range edges() {
		m := wire.Msg{Kind: kind, Number: 4, Op: doMove(5), Lock: lock(6)}
		if !bytes.Equal(wire.Encode(m), laid(m)) {
			t.Errorf("Encode of %v: %v", m, wire.Encode(m))
		}
		if decode(t, laid(m)) != (kind >= 1 && kind <= 5) {
			t.Errorf("a message of kind %d", kind)
		}
		if !decodeOp(t, laidOp(wire.Op{Kind: kind})) {
			t.Errorf("what is done of kind %d", kind)
		}
		m.Kind, m.Op.Kind = 1, kind
		if !decode(t, laid(m)) {
			t.Errorf("a message with what is done of kind %d", kind)
		}
	}
}

// WI2: of two things that differ the bytes do, too.
func TestEncodeApart(t *testing.T) {
	ops := map[string]wire.Op{}
	for _, o := range goodOps() {
		b := string(wire.EncodeOp(o))
		if other, ok := ops[b]; ok && !sameOp(other, o) {
			t.Errorf("%s and %s have the same bytes", tell(other), tell(o))
		}
		ops[b] = o
	}
	msgs := map[string]wire.Msg{}
	for _, m := range goodMsgs() {
		b := string(wire.Encode(m))
		if other, ok := msgs[b]; ok && !sameMsg(other, m) {
			t.Errorf("%v and %v have the same bytes", other, m)
		}
		msgs[b] = m
	}
}

// Rule 3: nil and the empty list have the same bytes.
func TestEncodeEmpty(t *testing.T) {
	a := wire.Msg{Kind: 1, Op: wire.Op{Kind: 3}}
	b := wire.Msg{Kind: 1, Op: wire.Op{Kind: 3, Secret: []byte{}}, Secret: make([]byte, 0, 9)}
	if !bytes.Equal(wire.EncodeOp(a.Op), wire.EncodeOp(b.Op)) || !bytes.Equal(wire.Encode(a), wire.Encode(b)) {
		t.Errorf("nil and the empty list differ: %v, %v", wire.Encode(a), wire.Encode(b))
	}
}

// Rule 4: what is answered hangs on what is given alone.
func TestBytesAgain(t *testing.T) {
	for _, m := range goodMsgs() {
		a, c := wire.Encode(m), wire.EncodeOp(m.Op)
		wire.Encode(wire.Msg{Kind: 3, Secret: []byte("between")})
		wire.Decode([]byte{129})
		if !bytes.Equal(a, wire.Encode(m)) || !bytes.Equal(c, wire.EncodeOp(m.Op)) {
			t.Errorf("%v is laid in two ways", m)
		}
		one, _ := wire.Decode(a)
		two, _ := wire.Decode(a)
		if !sameMsg(one, two) {
			t.Errorf("%v and %v of the same bytes", one, two)
		}
	}
}

// FuzzDecodeOp: any bytes.
func FuzzDecodeOp(f *testing.F) {
	for _, o := range few(goodOps()) {
		f.Add(laidOp(o))
	}
	f.Fuzz(func(t *testing.T, b []byte) { decodeOp(t, b) })
}

// FuzzDecode: any bytes.
func FuzzDecode(f *testing.F) {
	for _, m := range few(goodMsgs()) {
		f.Add(laid(m))
	}
	f.Fuzz(func(t *testing.T, b []byte) { decode(t, b) })
}
