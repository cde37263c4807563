// Package enc is layer 1: numbers and bytes laid so that their order stays: see shared/doc/01-enc.md.
package enc

import (
	"math"
	"math/bits"
	"slices"

	"bayou/api"
)

const (
	widest = 8   // how many bytes the greatest number has
	middle = 128 // the first byte of the int 0; ints below 0 begin below it
	flip   = 255 // what bytes of ints below 0 are taken from, so that their order turns round
	mark   = 255 // what follows a byte 0 within bytes, so that two bytes 0 end them
)

// Writer lays things behind one another.
type Writer struct{ laid []byte }

// New is a writer of nothing.
func New() *Writer { return &Writer{} }

// Uint lays a number from 0 on.
func (w *Writer) Uint(n uint64) *Writer {
	if w == nil {
		return nil
	}
	w.laid = append(w.laid, byte(size(n)))
	w.digits(n, 0)
	return w
}

// Int lays a number. One below 0 is laid by -1 - n, which, unlike -n, the least int has too.
func (w *Writer) Int(n int) *Writer {
	if w == nil {
		return nil
	}
	if n < 0 {
		m := uint64(-1 - n)
		w.laid = append(w.laid, byte(middle-1-size(m)))
		w.digits(m, flip)
		return w
	}
	w.laid = append(w.laid, byte(middle+size(uint64(n))))
	w.digits(uint64(n), 0)
	return w
}

// Bytes lays bytes.
func (w *Writer) Bytes(b []byte) *Writer {
	if w == nil {
		return nil
	}
	for _, x := range b {
		w.laid = append(w.laid, x)
		if x == 0 {
			w.laid = append(w.laid, mark)
		}
	}
	w.laid = append(w.laid, 0, 0)
	return w
}

// Hash lays a sum.
func (w *Writer) Hash(h api.Hash) *Writer {
	if w == nil {
		return nil
	}
	w.laid = append(w.laid, h[:]...)
	return w
}

// Done are the bytes.
func (w *Writer) Done() []byte {
	if w == nil {
		return nil
	}
	return slices.Clone(w.laid)
}

// digits lays a number's bytes, the highest first; a turn of flip takes each from 255.
func (w *Writer) digits(n uint64, turn byte) {
	for i := size(n) - 1; i >= 0; i-- {
		w.laid = append(w.laid, byte(n>>(8*i))^turn)
	}
}

// size is how many bytes a number has without needless noughts.
func size(n uint64) int { return (bits.Len64(n) + 7) / 8 }

// Reader takes things off bytes, one behind the other.
type Reader struct {
	left []byte
	err  error
}

// Read is a reader of bytes.
func Read(b []byte) *Reader { return &Reader{left: slices.Clone(b)} }

// Uint is a number from 0 up to a bound.
func (r *Reader) Uint(most uint64) uint64 {
	return take(r, func(b []byte) (uint64, int, error) { return frontUint(b, most) })
}

// Int is a number.
func (r *Reader) Int() int { return take(r, frontInt) }

// Count is how many things come, up to a bound.
func (r *Reader) Count(most int) int {
	return take(r, func(b []byte) (int, int, error) { return frontCount(b, most) })
}

// Bytes are at most so many.
func (r *Reader) Bytes(most int) []byte {
	return take(r, func(b []byte) ([]byte, int, error) { return frontBytes(b, most) })
}

// Hash is a sum.
func (r *Reader) Hash() api.Hash { return take(r, frontHash) }

// Left is how many bytes are left.
func (r *Reader) Left() int {
	if r == nil {
		return 0
	}
	return len(r.left)
}

// Done is the first error, or that bytes are left.
func (r *Reader) Done() error {
	switch {
	case r == nil:
		return api.ErrArg
	case r.err != nil:
		return r.err
	case len(r.left) > 0:
		return api.ErrForm
	}
	return nil
}

// take takes off what front finds, and how many bytes that has. All calls go through here, so that an error stays, and takes nothing off, in one place.
func take[T any](r *Reader, front func([]byte) (T, int, error)) T {
	var none T
	if r == nil || r.err != nil {
		return none
	}
	v, n, err := front(r.left)
	if err != nil {
		r.err = err
		return none
	}
	r.left = r.left[n:]
	return v
}

// frontUint is the number that bytes begin with, and how many bytes it stands on.
func frontUint(b []byte, most uint64) (uint64, int, error) {
	if len(b) == 0 {
		return 0, 0, api.ErrEnd
	}
	if b[0] > widest {
		return 0, 0, api.ErrForm
	}
	n, err := number(b[1:], int(b[0]), 0)
	if err != nil {
		return 0, 0, err
	}
	if n > most {
		return 0, 0, api.ErrRange
	}
	return n, 1 + int(b[0]), nil
}

// frontInt is the int that bytes begin with, and how many bytes it stands on.
func frontInt(b []byte) (int, int, error) {
	if len(b) == 0 {
		return 0, 0, api.ErrEnd
	}
	if b[0] < middle-1-widest || b[0] > middle+widest {
		return 0, 0, api.ErrForm
	}
	below := b[0] < middle
	wide, turn := int(b[0])-middle, byte(0)
	if below {
		wide, turn = -1-wide, flip
	}
	n, err := number(b[1:], wide, turn)
	if err != nil {
		return 0, 0, err
	}
	if n > math.MaxInt {
		return 0, 0, api.ErrRange
	}
	if below {
		return -1 - int(n), 1 + wide, nil
	}
	return int(n), 1 + wide, nil
}

// frontCount is the count that bytes begin with, and how many bytes it stands on: each thing that it counts needs a byte of those behind it.
func frontCount(b []byte, most int) (int, int, error) {
	n, wide, err := frontUint(b, uint64(max(most, 0)))
	if err != nil {
		return 0, 0, err
	}
	if n > uint64(len(b)-wide) {
		return 0, 0, api.ErrLong
	}
	return int(n), wide, nil
}

// frontBytes are the bytes that others begin with, and how many of these they stand on. No room is made ahead: the bound may be far above what comes.
func frontBytes(b []byte, most int) ([]byte, int, error) {
	if most < 0 {
		return nil, 0, api.ErrArg
	}
	var out []byte
	for at := 0; at < len(b); at++ {
		x := b[at]
		if x == 0 {
			at++
			if at == len(b) {
				break
			}
			if b[at] == 0 {
				return out, at + 1, nil
			}
			if b[at] != mark {
				return nil, 0, api.ErrForm
			}
		}
		if len(out) == most {
			return nil, 0, api.ErrLong
		}
		out = append(out, x)
	}
	return nil, 0, api.ErrEnd
}

// frontHash is the sum that bytes begin with, and how many bytes it stands on.
func frontHash(b []byte) (api.Hash, int, error) {
	var h api.Hash
	if len(b) < len(h) {
		return h, 0, api.ErrEnd
	}
	n := copy(h[:], b)
	return h, n, nil
}

// number is the number of so many bytes, the highest first; a turn of flip takes each from 255. One that begins with a nought would stand twice, so it has not the form.
func number(b []byte, wide int, turn byte) (uint64, error) {
	if len(b) < wide {
		return 0, api.ErrEnd
	}
	if wide > 0 && b[0] == turn {
		return 0, api.ErrForm
	}
	var n uint64
	for _, x := range b[:wide] {
		n = n<<8 | uint64(x^turn)
	}
	return n, nil
}
