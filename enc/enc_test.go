package enc_test

import (
	"bytes"
	"cmp"
	"errors"
	"math"
	"slices"
	"testing"

	"bayou/api"
	"bayou/enc"
)

// sum is a sum whose bytes rise from one on.
func sum(from byte) api.Hash {
	var h api.Hash
	for i := range h {
		h[i] = from + byte(i)
	}
	return h
}

// wantErr holds an error against the number that is asked for; 0: none.
func wantErr(t *testing.T, what string, err error, want api.Errno) {
	t.Helper()
	var got api.Errno
	switch {
	case want == 0 && err != nil:
		t.Errorf("%s: %v, want no error", what, err)
	case want != 0 && (!errors.As(err, &got) || got != want):
		t.Errorf("%s: %v, want %v", what, err, want)
	}
}

// numbers are 0, the greatest one, and all about the edges at which one more byte is needed.
func numbers() []uint64 {
	l := []uint64{0, 1, 2, 127, 128, 254, 300, math.MaxInt64, 1 << 63, math.MaxUint64 - 1, math.MaxUint64}
	for i := 8; i < 64; i += 8 {
		l = append(l, 1<<i-1, 1<<i, 1<<i+1)
	}
	return l
}

// ints are 0, -1, the least and the greatest int, and all about the edges at which one more byte is needed.
func ints() []int {
	l := []int{math.MinInt, math.MinInt + 1, math.MaxInt - 1, math.MaxInt}
	for _, n := range numbers() {
		if n <= math.MaxInt {
			l = append(l, int(n), -int(n), -1-int(n))
		}
	}
	return l
}

// texts are bytes of all lengths up to 3 over those that have a part of their own, and those beside them.
func texts() [][]byte {
	l := [][]byte{nil}
	for at := 0; at < len(l) && len(l[at]) < 3; at++ {
		for _, x := range []byte{0, 1, 97, 254, 255} {
			l = append(l, append(slices.Clone(l[at]), x))
		}
	}
	return l
}

// TestWriterBytes: EN1, what each thing is as bytes.
func TestWriterBytes(t *testing.T) {
	h := sum(7)
	for _, c := range []struct {
		what string
		w    *enc.Writer
		want []byte
	}{
		{"nothing", enc.New(), nil},
		{"Uint 0", enc.New().Uint(0), []byte{0}},
		{"Uint 1", enc.New().Uint(1), []byte{1, 1}},
		{"Uint 255", enc.New().Uint(255), []byte{1, 255}},
		{"Uint 256", enc.New().Uint(256), []byte{2, 1, 0}},
		{"Uint 300", enc.New().Uint(300), []byte{2, 1, 44}},
		{"Uint 2^16", enc.New().Uint(1 << 16), []byte{3, 1, 0, 0}},
		{"Uint 2^63", enc.New().Uint(1 << 63), []byte{8, 128, 0, 0, 0, 0, 0, 0, 0}},
		{"Uint greatest", enc.New().Uint(math.MaxUint64), []byte{8, 255, 255, 255, 255, 255, 255, 255, 255}},
		{"Int 0", enc.New().Int(0), []byte{128}},
		{"Int 1", enc.New().Int(1), []byte{129, 1}},
		{"Int 255", enc.New().Int(255), []byte{129, 255}},
		{"Int 256", enc.New().Int(256), []byte{130, 1, 0}},
		{"Int greatest", enc.New().Int(math.MaxInt), []byte{136, 127, 255, 255, 255, 255, 255, 255, 255}},
		{"Int -1", enc.New().Int(-1), []byte{127}},
		{"Int -2", enc.New().Int(-2), []byte{126, 254}},
		{"Int -256", enc.New().Int(-256), []byte{126, 0}},
		{"Int -257", enc.New().Int(-257), []byte{125, 254, 255}},
		{"Int least", enc.New().Int(math.MinInt), []byte{119, 128, 0, 0, 0, 0, 0, 0, 0}},
		{"Bytes nil", enc.New().Bytes(nil), []byte{0, 0}},
		{"Bytes empty", enc.New().Bytes([]byte{}), []byte{0, 0}},
		{"Bytes a", enc.New().Bytes([]byte("a")), []byte{97, 0, 0}},
		{"Bytes 0", enc.New().Bytes([]byte{0}), []byte{0, 255, 0, 0}},
		{"Bytes 0 0", enc.New().Bytes([]byte{0, 0}), []byte{0, 255, 0, 255, 0, 0}},
		{"Bytes 1 0 255", enc.New().Bytes([]byte{1, 0, 255}), []byte{1, 0, 255, 255, 0, 0}},
		{"Hash", enc.New().Hash(h), h[:]},
		{"Hash of noughts", enc.New().Hash(api.Hash{}), make([]byte, 32)},
		{"the chapter's example", enc.New().Uint(300).Int(-1).Bytes([]byte("a")), []byte{2, 1, 44, 127, 97, 0, 0}},
	} {
		if got := c.w.Done(); !bytes.Equal(got, c.want) {
			t.Errorf("%s: % d, want % d", c.what, got, c.want)
		}
	}
}

// TestWriterItself: EN1, each call answers the writer itself, and lays behind what was laid.
func TestWriterItself(t *testing.T) {
	w := enc.New()
	h := sum(1)
	for i, got := range []*enc.Writer{w.Uint(5), w.Int(-1), w.Bytes([]byte{9}), w.Hash(h)} {
		if got != w {
			t.Errorf("call %d answers another writer", i)
		}
	}
	want := append([]byte{1, 5, 127, 9, 0, 0}, h[:]...)
	if got := w.Done(); !bytes.Equal(got, want) {
		t.Errorf("Done: % d, want % d", got, want)
	}
	if got := w.Uint(0).Done(); !bytes.Equal(got, append(want, 0)) {
		t.Errorf("Done behind Done: % d", got)
	}
	if enc.New() == enc.New() {
		t.Error("two calls of New answer one writer")
	}
}

// TestWriterNil: EN1, a nil Writer stays nil.
func TestWriterNil(t *testing.T) {
	var w *enc.Writer
	for i, got := range []*enc.Writer{w.Uint(1), w.Int(1), w.Bytes([]byte{1}), w.Hash(sum(1))} {
		if got != nil {
			t.Errorf("call %d of a nil writer answers one", i)
		}
	}
	if got := w.Done(); len(got) != 0 {
		t.Errorf("Done of a nil writer: % d", got)
	}
}

// TestWriterMemory: rule 3, an answer is new memory, and an argument is neither changed nor kept.
func TestWriterMemory(t *testing.T) {
	arg := []byte{1, 0, 2, 77}
	w := enc.New().Bytes(arg[:3])
	if !bytes.Equal(arg, []byte{1, 0, 2, 77}) {
		t.Errorf("Bytes changed its argument: % d", arg)
	}
	arg[0] = 9
	want := []byte{1, 0, 255, 2, 0, 0}
	first := w.Done()
	if !bytes.Equal(first, want) {
		t.Errorf("Done: % d, want % d", first, want)
	}
	for i := range first[:cap(first)] {
		first[:cap(first)][i] = 88
	}
	if got := w.Done(); !bytes.Equal(got, want) {
		t.Errorf("an answer shares memory with the writer: % d", got)
	}
	second := w.Done()
	w.Uint(5)
	if spare := second[:cap(second)][len(second):]; bytes.Contains(spare, []byte{1, 5}) {
		t.Errorf("an answer's spare room is the writer's: % d", spare)
	}
	_ = append(second, 66, 66)
	if got := w.Done(); !bytes.Equal(got, append(want, 1, 5)) {
		t.Errorf("Done behind an append to an answer: % d", got)
	}
}

// reading is a call of a reader with what it answers.
type reading struct {
	what string
	in   []byte
	call func(r *enc.Reader) any
	want any
	err  api.Errno
	left int
}

// check reads, and holds the answer, the error, and how many bytes are left against what is asked for.
func (c reading) check(t *testing.T) {
	t.Helper()
	r := enc.Read(c.in)
	got := c.call(r)
	if b, ok := got.([]byte); ok {
		got = string(b)
	}
	if got != c.want {
		t.Errorf("%s of % d: %v, want %v", c.what, c.in, got, c.want)
	}
	if r.Left() != c.left {
		t.Errorf("%s of % d: %d left, want %d", c.what, c.in, r.Left(), c.left)
	}
	want := c.err
	if want == 0 && c.left > 0 {
		want = api.ErrForm
	}
	wantErr(t, c.what+" then Done", r.Done(), want)
	if c.err != 0 {
		checkStopped(t, c.what, r, c.left, c.err)
	}
}

// checkStopped: EN3, behind an error each call answers its zero value, and neither the error nor what is left changes.
func checkStopped(t *testing.T, what string, r *enc.Reader, left int, err api.Errno) {
	t.Helper()
	if r.Uint(math.MaxUint64) != 0 || r.Int() != 0 || r.Count(math.MaxInt) != 0 || len(r.Bytes(math.MaxInt)) != 0 || len(r.Bytes(-1)) != 0 || r.Hash() != (api.Hash{}) {
		t.Errorf("%s: a call behind an error answers something", what)
	}
	if r.Left() != left {
		t.Errorf("%s: %d left behind an error, want %d", what, r.Left(), left)
	}
	wantErr(t, what+", then all calls, then Done", r.Done(), err)
}

func uintOf(most uint64) func(*enc.Reader) any {
	return func(r *enc.Reader) any { return r.Uint(most) }
}

func intOf(r *enc.Reader) any { return r.Int() }

func countOf(most int) func(*enc.Reader) any {
	return func(r *enc.Reader) any { return r.Count(most) }
}

func bytesOf(most int) func(*enc.Reader) any {
	return func(r *enc.Reader) any { return r.Bytes(most) }
}

func hashOf(r *enc.Reader) any { return r.Hash() }

// TestReaderUint: EN2, Uint, and its errors in their order.
func TestReaderUint(t *testing.T) {
	const all = math.MaxUint64
	greatest := []byte{8, 255, 255, 255, 255, 255, 255, 255, 255}
	for _, c := range []reading{
		{"Uint 0", []byte{0}, uintOf(all), uint64(0), 0, 0},
		{"Uint 1", []byte{1, 1}, uintOf(all), uint64(1), 0, 0},
		{"Uint 300", []byte{2, 1, 44, 9}, uintOf(all), uint64(300), 0, 1},
		{"Uint greatest", greatest, uintOf(all), uint64(all), 0, 0},
		{"Uint at its bound", []byte{2, 1, 44}, uintOf(300), uint64(300), 0, 0},
		{"Uint 0 of bound 0", []byte{0}, uintOf(0), uint64(0), 0, 0},
		{"Uint of nothing", nil, uintOf(all), uint64(0), api.ErrEnd, 0},
		{"Uint, first byte 9", []byte{9, 1, 2, 3, 4, 5, 6, 7, 8, 9}, uintOf(all), uint64(0), api.ErrForm, 10},
		{"Uint, first byte 9, none behind", []byte{9}, uintOf(0), uint64(0), api.ErrForm, 1},
		{"Uint, first byte 255", []byte{255}, uintOf(all), uint64(0), api.ErrForm, 1},
		{"Uint, one byte too few", []byte{2, 1}, uintOf(all), uint64(0), api.ErrEnd, 2},
		{"Uint, too few of 8", greatest[:8], uintOf(all), uint64(0), api.ErrEnd, 8},
		{"Uint, too few, a nought first", []byte{2, 0}, uintOf(0), uint64(0), api.ErrEnd, 2},
		{"Uint, too few, above", []byte{2, 1}, uintOf(0), uint64(0), api.ErrEnd, 2},
		{"Uint, a nought alone", []byte{1, 0}, uintOf(all), uint64(0), api.ErrForm, 2},
		{"Uint, a nought first, above", []byte{2, 0, 1}, uintOf(0), uint64(0), api.ErrForm, 3},
		{"Uint above", []byte{2, 1, 44}, uintOf(299), uint64(0), api.ErrRange, 3},
		{"Uint 1 of bound 0", []byte{1, 1}, uintOf(0), uint64(0), api.ErrRange, 2},
		{"Uint greatest above", greatest, uintOf(all - 1), uint64(0), api.ErrRange, 9},
	} {
		c.check(t)
	}
}

// TestReaderInt: EN2, Int, and its errors in their order.
func TestReaderInt(t *testing.T) {
	for _, c := range []reading{
		{"Int 0", []byte{128}, intOf, 0, 0, 0},
		{"Int 300", []byte{130, 1, 44, 9}, intOf, 300, 0, 1},
		{"Int greatest", []byte{136, 127, 255, 255, 255, 255, 255, 255, 255}, intOf, math.MaxInt, 0, 0},
		{"Int -1", []byte{127}, intOf, -1, 0, 0},
		{"Int -1, more behind", []byte{127, 0}, intOf, -1, 0, 1},
		{"Int -2", []byte{126, 254}, intOf, -2, 0, 0},
		{"Int -256", []byte{126, 0}, intOf, -256, 0, 0},
		{"Int -257", []byte{125, 254, 255}, intOf, -257, 0, 0},
		{"Int least", []byte{119, 128, 0, 0, 0, 0, 0, 0, 0}, intOf, math.MinInt, 0, 0},
		{"Int of nothing", nil, intOf, 0, api.ErrEnd, 0},
		{"Int, first byte 118", []byte{118}, intOf, 0, api.ErrForm, 1},
		{"Int, first byte 118, enough behind", append([]byte{118}, make([]byte, 9)...), intOf, 0, api.ErrForm, 10},
		{"Int, first byte 137", []byte{137}, intOf, 0, api.ErrForm, 1},
		{"Int, first byte 137, enough behind", []byte{137, 1, 2, 3, 4, 5, 6, 7, 8, 9}, intOf, 0, api.ErrForm, 10},
		{"Int, first byte 0", []byte{0}, intOf, 0, api.ErrForm, 1},
		{"Int, first byte 255", []byte{255}, intOf, 0, api.ErrForm, 1},
		{"Int, none of 8 below", []byte{119}, intOf, 0, api.ErrEnd, 1},
		{"Int, none of 8", []byte{136}, intOf, 0, api.ErrEnd, 1},
		{"Int, too few", []byte{130, 1}, intOf, 0, api.ErrEnd, 2},
		{"Int, too few below", []byte{125, 1}, intOf, 0, api.ErrEnd, 2},
		{"Int, too few, a nought first", []byte{130, 0}, intOf, 0, api.ErrEnd, 2},
		{"Int, too few below, what stands for a nought first", []byte{125, 255}, intOf, 0, api.ErrEnd, 2},
		{"Int, a nought", []byte{129, 0}, intOf, 0, api.ErrForm, 2},
		{"Int, what stands for a nought", []byte{126, 255}, intOf, 0, api.ErrForm, 2},
		{"Int, 255 is no nought", []byte{129, 255}, intOf, 255, 0, 0},
		{"Int, a nought first", []byte{136, 0, 255, 255, 255, 255, 255, 255, 255}, intOf, 0, api.ErrForm, 9},
		{"Int one too great", []byte{136, 128, 0, 0, 0, 0, 0, 0, 0}, intOf, 0, api.ErrRange, 9},
		{"Int far too great", []byte{136, 255, 255, 255, 255, 255, 255, 255, 255}, intOf, 0, api.ErrRange, 9},
		{"Int one too small", []byte{119, 127, 255, 255, 255, 255, 255, 255, 255}, intOf, 0, api.ErrRange, 9},
		{"Int far too small", []byte{119, 0, 0, 0, 0, 0, 0, 0, 0}, intOf, 0, api.ErrRange, 9},
	} {
		c.check(t)
	}
}

// TestReaderCount: EN2, Count, and its errors in their order.
func TestReaderCount(t *testing.T) {
	for _, c := range []reading{
		{"Count 0", []byte{0}, countOf(9), 0, 0, 0},
		{"Count 2", []byte{1, 2, 5, 6, 7}, countOf(9), 2, 0, 3},
		{"Count of all that is left", []byte{1, 2, 5, 6}, countOf(2), 2, 0, 2},
		{"Count 0 of bound 0", []byte{0, 1}, countOf(0), 0, 0, 1},
		{"Count 0 of bound -1", []byte{0}, countOf(-1), 0, 0, 0},
		{"Count 0 of the least bound", []byte{0}, countOf(math.MinInt), 0, 0, 0},
		{"Count 1 of bound -1", []byte{1, 1, 7}, countOf(-1), 0, api.ErrRange, 3},
		{"Count 1 of the least bound", []byte{1, 1, 7}, countOf(math.MinInt), 0, api.ErrRange, 3},
		{"Count of nothing", nil, countOf(9), 0, api.ErrEnd, 0},
		{"Count of nothing, bound -1", nil, countOf(-1), 0, api.ErrEnd, 0},
		{"Count, first byte 9", []byte{9}, countOf(9), 0, api.ErrForm, 1},
		{"Count, too few", []byte{1}, countOf(9), 0, api.ErrEnd, 1},
		{"Count, a nought first", []byte{1, 0}, countOf(9), 0, api.ErrForm, 2},
		{"Count above", []byte{1, 3, 5, 6, 7}, countOf(2), 0, api.ErrRange, 5},
		{"Count above, and more than is left", []byte{1, 3, 5}, countOf(2), 0, api.ErrRange, 3},
		{"Count one more than is left", []byte{1, 3, 5, 6}, countOf(9), 0, api.ErrLong, 4},
		{"Count of none left", []byte{1, 1}, countOf(1), 0, api.ErrLong, 2},
		{"Count of the greatest int", []byte{8, 127, 255, 255, 255, 255, 255, 255, 255}, countOf(math.MaxInt), 0, api.ErrLong, 9},
		{"Count of the greatest number", []byte{8, 255, 255, 255, 255, 255, 255, 255, 255}, countOf(math.MaxInt), 0, api.ErrRange, 9},
	} {
		c.check(t)
	}
}

// TestReaderBytes: EN2, Bytes, and its errors in their order.
func TestReaderBytes(t *testing.T) {
	const all = math.MaxInt
	for _, c := range []reading{
		{"Bytes of none", []byte{0, 0}, bytesOf(all), "", 0, 0},
		{"Bytes a", []byte{97, 0, 0, 5}, bytesOf(all), "a", 0, 1},
		{"Bytes, a byte 0 within", []byte{1, 0, 255, 2, 0, 0}, bytesOf(all), "\x01\x00\x02", 0, 0},
		{"Bytes 0 255", []byte{0, 255, 255, 0, 0}, bytesOf(all), "\x00\xff", 0, 0},
		{"Bytes 255", []byte{255, 0, 0}, bytesOf(all), "\xff", 0, 0},
		{"Bytes that end at the first two noughts", []byte{1, 0, 0, 0, 0}, bytesOf(all), "\x01", 0, 2},
		{"Bytes at their bound", []byte{1, 0, 255, 0, 0}, bytesOf(2), "\x01\x00", 0, 0},
		{"Bytes of none, bound 0", []byte{0, 0}, bytesOf(0), "", 0, 0},
		{"Bytes, bound -1", []byte{0, 0}, bytesOf(-1), "", api.ErrArg, 2},
		{"Bytes, the least bound", []byte{0, 0}, bytesOf(math.MinInt), "", api.ErrArg, 2},
		{"Bytes of nothing, bound -1", nil, bytesOf(-1), "", api.ErrArg, 0},
		{"Bytes of nothing", nil, bytesOf(all), "", api.ErrEnd, 0},
		{"Bytes without an end", []byte{97, 98}, bytesOf(all), "", api.ErrEnd, 2},
		{"Bytes with half an end", []byte{97, 0}, bytesOf(all), "", api.ErrEnd, 2},
		{"Bytes with half an end, at their bound", []byte{97, 0}, bytesOf(1), "", api.ErrEnd, 2},
		{"Bytes that end behind a byte 0", []byte{0, 255}, bytesOf(all), "", api.ErrEnd, 2},
		{"Bytes, 1 behind a byte 0", []byte{97, 0, 1, 0, 0}, bytesOf(all), "", api.ErrForm, 5},
		{"Bytes, 254 behind a byte 0", []byte{0, 254, 0, 0}, bytesOf(all), "", api.ErrForm, 4},
		{"Bytes, 1 behind a byte 0, at their bound", []byte{97, 0, 1, 0, 0}, bytesOf(1), "", api.ErrForm, 5},
		{"Bytes, one more", []byte{97, 98, 0, 0}, bytesOf(1), "", api.ErrLong, 4},
		{"Bytes, one more, which is 0", []byte{97, 0, 255, 0, 0}, bytesOf(1), "", api.ErrLong, 5},
		{"Bytes, bound 0", []byte{97, 0, 0}, bytesOf(0), "", api.ErrLong, 3},
		{"Bytes, one more ahead of what has no form", []byte{97, 98, 0, 1}, bytesOf(1), "", api.ErrLong, 4},
		{"Bytes, one more ahead of the end", []byte{97, 98}, bytesOf(1), "", api.ErrLong, 2},
		{"Bytes, no form ahead of one more", []byte{0, 1, 97, 98}, bytesOf(1), "", api.ErrForm, 4},
	} {
		c.check(t)
	}
}

// TestReaderHash: EN2, Hash, and its error.
func TestReaderHash(t *testing.T) {
	h := sum(9)
	more := append(h[:len(h):len(h)], 1, 2)
	for _, c := range []reading{
		{"Hash", h[:], hashOf, h, 0, 0},
		{"Hash, more behind", more, hashOf, h, 0, 2},
		{"Hash of 31 bytes", h[:31], hashOf, api.Hash{}, api.ErrEnd, 31},
		{"Hash of nothing", nil, hashOf, api.Hash{}, api.ErrEnd, 0},
	} {
		c.check(t)
	}
}

// TestReaderGoesOn: EN2 and EN3, a reader goes on behind what it took off, and Left and Done tell how far it is.
func TestReaderGoesOn(t *testing.T) {
	h := sum(3)
	r := enc.Read(enc.New().Uint(300).Int(-2).Bytes([]byte{0, 7}).Hash(h).Uint(1).Uint(0).Done())
	left := func(want int) {
		t.Helper()
		if r.Left() != want {
			t.Errorf("Left: %d, want %d", r.Left(), want)
		}
		wantErr(t, "Done with bytes left", r.Done(), api.ErrForm)
	}
	left(45)
	if n := r.Uint(300); n != 300 {
		t.Errorf("Uint: %d", n)
	}
	left(42)
	if n := r.Int(); n != -2 {
		t.Errorf("Int: %d", n)
	}
	left(40)
	if b := r.Bytes(2); !bytes.Equal(b, []byte{0, 7}) {
		t.Errorf("Bytes: % d", b)
	}
	left(35)
	if got := r.Hash(); got != h {
		t.Errorf("Hash: % d", got)
	}
	left(3)
	if n := r.Count(1); n != 1 {
		t.Errorf("Count: %d", n)
	}
	left(1)
	if n := r.Uint(0); n != 0 || r.Left() != 0 {
		t.Errorf("Uint: %d, %d left", n, r.Left())
	}
	wantErr(t, "Done of all", r.Done(), 0)
}

// TestReaderKeepsError: EN3, the first error stays, though what stands there would be right for a later call.
func TestReaderKeepsError(t *testing.T) {
	for _, c := range []struct {
		what string
		fail func(r *enc.Reader)
		err  api.Errno
	}{
		{"Uint", func(r *enc.Reader) { r.Uint(1) }, api.ErrRange},
		{"Int", func(r *enc.Reader) { r.Int() }, api.ErrForm},
		{"Count", func(r *enc.Reader) { r.Count(9) }, api.ErrLong},
		{"Bytes", func(r *enc.Reader) { r.Bytes(1) }, api.ErrLong},
		{"Bytes, bound -1", func(r *enc.Reader) { r.Bytes(-1) }, api.ErrArg},
		{"Hash", func(r *enc.Reader) { r.Hash() }, api.ErrEnd},
	} {
		r := enc.Read([]byte{1, 5, 0, 0})
		c.fail(r)
		checkStopped(t, c.what, r, 4, c.err)
	}
	r := enc.Read([]byte{1, 5, 137})
	if n := r.Uint(9); n != 5 {
		t.Errorf("Uint: %d", n)
	}
	r.Int()
	checkStopped(t, "Int behind Uint", r, 1, api.ErrForm)
}

// TestReaderEmpty: EN3, a reader of nothing is done; Done and Left change nothing.
func TestReaderEmpty(t *testing.T) {
	for _, b := range [][]byte{nil, {}} {
		r := enc.Read(b)
		for range 2 {
			wantErr(t, "Done of nothing", r.Done(), 0)
			if r.Left() != 0 {
				t.Errorf("Left of nothing: %d", r.Left())
			}
		}
	}
	r := enc.Read([]byte{1, 5})
	wantErr(t, "Done at the beginning", r.Done(), api.ErrForm)
	if n := r.Uint(9); n != 5 {
		t.Errorf("Uint behind Done: %d", n)
	}
	wantErr(t, "Done at the end", r.Done(), 0)
}

// TestReaderNil: EN3, a nil Reader answers zero values, and ErrArg of Done.
func TestReaderNil(t *testing.T) {
	checkStopped(t, "nil", nil, 0, api.ErrArg)
}

// TestReaderMemory: rule 3, what is read is neither changed nor kept, and answers are new memory.
func TestReaderMemory(t *testing.T) {
	in := []byte{97, 98, 0, 0, 99, 0, 0}
	was := slices.Clone(in)
	r := enc.Read(in)
	in[0], in[4] = 1, 1
	first := r.Bytes(9)
	if string(first) != "ab" {
		t.Errorf("a reader sees what its argument became: %q", first)
	}
	for i := range first[:cap(first)] {
		first[:cap(first)][i] = 88
	}
	if second := r.Bytes(9); string(second) != "c" {
		t.Errorf("an answer shares memory with the reader: %q", second)
	}
	in[0], in[4] = 97, 99
	if !bytes.Equal(in, was) {
		t.Errorf("the argument was changed: % d", in)
	}
}

// TestReaderBound: rule 1, a great bound alone makes no room.
func TestReaderBound(t *testing.T) {
	r := enc.Read([]byte{97, 0, 0})
	if b := r.Bytes(math.MaxInt); string(b) != "a" || cap(b) > 1<<10 {
		t.Errorf("Bytes: %q with room for %d", b, cap(b))
	}
}

// TestBack: EN4, what is laid is taken off as it was.
func TestBack(t *testing.T) {
	for _, n := range numbers() {
		r := enc.Read(enc.New().Uint(n).Done())
		if got := r.Uint(n); got != n || r.Done() != nil {
			t.Errorf("Uint of %d: %d, %v", n, got, r.Done())
		}
	}
	for _, n := range ints() {
		r := enc.Read(enc.New().Int(n).Done())
		if got := r.Int(); got != n || r.Done() != nil {
			t.Errorf("Int of %d: %d, %v", n, got, r.Done())
		}
	}
	for _, b := range texts() {
		r := enc.Read(enc.New().Bytes(b).Done())
		if got := r.Bytes(len(b)); !bytes.Equal(got, b) || r.Done() != nil {
			t.Errorf("Bytes of % d: % d, %v", b, got, r.Done())
		}
	}
	for _, h := range []api.Hash{{}, sum(0), sum(255)} {
		r := enc.Read(enc.New().Hash(h).Done())
		if got := r.Hash(); got != h || r.Done() != nil {
			t.Errorf("Hash of % d: % d, %v", h, got, r.Done())
		}
	}
}

// TestBackRow: EN4, rows of many things come back, too.
func TestBackRow(t *testing.T) {
	w := enc.New()
	for i, b := range texts() {
		w.Bytes(b).Uint(numbers()[i%len(numbers())]).Hash(sum(byte(i))).Int(ints()[i%len(ints())])
	}
	r := enc.Read(w.Done())
	for i, b := range texts() {
		n, m := numbers()[i%len(numbers())], ints()[i%len(ints())]
		if got := r.Bytes(3); !bytes.Equal(got, b) {
			t.Fatalf("Bytes of row %d: % d, want % d", i, got, b)
		}
		if got := r.Uint(n); got != n {
			t.Fatalf("Uint of row %d: %d, want %d", i, got, n)
		}
		if got := r.Hash(); got != sum(byte(i)) {
			t.Fatalf("Hash of row %d: % d", i, got)
		}
		if got := r.Int(); got != m {
			t.Fatalf("Int of row %d: %d, want %d", i, got, m)
		}
	}
	wantErr(t, "Done of all rows", r.Done(), 0)
}

// TestSameAgain: EN4, of bytes that are taken off whole the same laid again are these bytes.
func TestSameAgain(t *testing.T) {
	whole := 0
	for _, b := range short() {
		for kind := range 4 {
			again, ok := layAgain(b, kind)
			if !ok {
				continue
			}
			whole++
			if !bytes.Equal(again, b) {
				t.Errorf("kind %d of % d laid again: % d", kind, b, again)
			}
		}
	}
	if whole < 1000 {
		t.Errorf("only %d were taken off whole", whole)
	}
}

// short are all bytes of length 0 to 2, and those of length 3 to 5 over a few.
func short() [][]byte {
	l := [][]byte{nil}
	for x := range 256 {
		l = append(l, []byte{byte(x)})
		for y := range 256 {
			l = append(l, []byte{byte(x), byte(y)})
		}
	}
	few := []byte{0, 1, 2, 3, 124, 125, 126, 127, 128, 129, 130, 131, 254, 255}
	row := [][]byte{nil}
	for range 5 {
		var longer [][]byte
		for _, b := range row {
			for _, x := range few {
				longer = append(longer, append(slices.Clone(b), x))
			}
		}
		row = longer
		if len(row[0]) > 2 {
			l = append(l, row...)
		}
	}
	return l
}

// layAgain takes one thing of a kind off, and lays it again; false: it did not come off whole.
func layAgain(b []byte, kind int) ([]byte, bool) {
	r, w := enc.Read(b), enc.New()
	switch kind {
	case 0:
		w.Uint(r.Uint(math.MaxUint64))
	case 1:
		w.Int(r.Int())
	case 2:
		w.Bytes(r.Bytes(math.MaxInt))
	case 3:
		w.Uint(uint64(r.Count(math.MaxInt)))
	}
	return w.Done(), r.Done() == nil
}

// TestOrder: EN4, what is laid stands in the order of the things, whatever stands behind it.
func TestOrder(t *testing.T) {
	tails := [][2]uint64{{0, 0}, {0, math.MaxUint64}, {math.MaxUint64, 0}}
	order(t, "Uint", numbers(), (*enc.Writer).Uint, cmp.Compare[uint64], tails)
	order(t, "Int", ints(), (*enc.Writer).Int, cmp.Compare[int], tails)
	order(t, "Bytes", texts(), (*enc.Writer).Bytes, bytes.Compare, tails)
	sums := []api.Hash{{}, sum(0), sum(1), sum(250), {31: 1}, {30: 1}}
	order(t, "Hash", sums, (*enc.Writer).Hash, func(a, b api.Hash) int { return bytes.Compare(a[:], b[:]) }, tails)
}

// order holds the order of what is laid against the order of the things, for each two of them, with a number behind, and a thing that is the same ahead.
func order[T any](t *testing.T, what string, l []T, lay func(*enc.Writer, T) *enc.Writer, compare func(a, b T) int, tails [][2]uint64) {
	t.Helper()
	for _, a := range l {
		for _, b := range l {
			for _, tail := range tails {
				x := lay(enc.New().Int(-5), a).Uint(tail[0]).Done()
				y := lay(enc.New().Int(-5), b).Uint(tail[1]).Done()
				want := cmp.Or(compare(a, b), cmp.Compare(tail[0], tail[1]))
				if got := bytes.Compare(x, y); got != want {
					t.Fatalf("%s of %v and %v, with %v behind: order %d, want %d", what, a, b, tail, got, want)
				}
			}
		}
	}
}

// FuzzReader: rule 1, EN3 and EN4 for any bytes and any calls: none panics, with an error nothing is taken off, and what was taken off is, laid again, what it was taken from.
func FuzzReader(f *testing.F) {
	f.Add([]byte{2, 1, 44, 127, 97, 0, 0}, []byte{0, 1, 2})
	f.Add([]byte{1, 2, 5, 6}, []byte{3, 4})
	f.Add(make([]byte, 40), []byte{4, 2, 2, 0})
	f.Fuzz(func(t *testing.T, b, calls []byte) {
		r, w := enc.Read(b), enc.New()
		for _, c := range calls {
			at := len(w.Done())
			if r.Left() != len(b)-at {
				t.Fatalf("%d left of %d, of which %d were taken off", r.Left(), len(b), at)
			}
			step(r, w, c)
			if r.Left() == len(b)-at { // each thing has a byte at least
				var no api.Errno
				if errors.As(r.Done(), &no); no == 0 {
					t.Fatal("nothing was taken off, without an error")
				}
				checkStopped(t, "any call", r, len(b)-at, no)
				return
			}
			if got := w.Done(); !bytes.HasPrefix(b, got) {
				t.Fatalf("laid again: % d of % d", got, b)
			}
		}
	})
}

// step takes one thing off a reader, and lays it on a writer.
func step(r *enc.Reader, w *enc.Writer, call byte) {
	most := int(call / 5)
	switch call % 5 {
	case 0:
		w.Uint(r.Uint(uint64(most)))
	case 1:
		w.Int(r.Int())
	case 2:
		w.Bytes(r.Bytes(most))
	case 3:
		w.Uint(uint64(r.Count(most)))
	case 4:
		w.Hash(r.Hash())
	}
}
