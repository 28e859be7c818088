package codec

import (
	"bytes"

	"witness/api"
)

// Reader takes things from the front of bytes; what went wrong first stays.
type Reader struct {
	text []byte
	at   int // how many bytes were taken
	err  api.Errno
}

// NewReader is a reader of these bytes, as they are now.
func NewReader(b []byte) *Reader { return &Reader{text: bytes.Clone(b)} }

// take is the next n bytes, of the Reader's own memory: nobody outside may get them.
func (r *Reader) take(n int) []byte {
	if n < 0 || n > r.Left() {
		r.Fail(api.ErrShort)
	}
	if r.err != api.OK {
		return nil
	}
	r.at += n
	return r.text[r.at-n : r.at]
}

// Byte takes a byte.
func (r *Reader) Byte() byte {
	var n byte
	for _, b := range r.take(1) {
		n = b
	}
	return n
}

// Word takes four bytes, the highest first.
func (r *Reader) Word() uint32 {
	var n uint32
	for _, b := range r.take(4) {
		n = n<<8 | uint32(b)
	}
	return n
}

// Long takes eight bytes, the highest first.
func (r *Reader) Long() uint64 {
	var n uint64
	for _, b := range r.take(8) {
		n = n<<8 | uint64(b)
	}
	return n
}

// lastPlace is the tenth byte of a number, of which one bit alone is left.
const lastPlace = 9

// Uint takes a number that is at most so great.
func (r *Reader) Uint(most uint64) uint64 {
	var n uint64
	fault := r.err
	at := r.at
	if fault != api.OK {
		goto end
	}
	for k := 0; ; k++ {
		if at == len(r.text) {
			fault = api.ErrShort
			goto end
		}
		b := r.text[at]
		at++
		if k == lastPlace && b > 1 {
			fault = api.ErrLong
			goto end
		}
		if k > 0 && b == 0 {
			fault = api.ErrForm
			goto end
		}
		n |= uint64(b&127) << (7 * k)
		if b < 128 {
			break
		}
	}
	if n > most {
		fault = api.ErrLong
	}
end:
	if fault != api.OK {
		r.Fail(fault)
		return 0
	}
	r.at = at
	return n
}

// Raw takes so many bytes.
func (r *Reader) Raw(n int) []byte { return bytes.Clone(r.take(n)) }

// Text takes a text of at most so many bytes.
func (r *Reader) Text(most int) []byte {
	front := r.at
	n := r.Uint(uint64(max(most, 0)))
	if most < 0 {
		r.Fail(api.ErrLong)
	}
	text := r.Raw(int(n))
	if r.err != api.OK {
		r.at = front // the number may have been taken, the text was not
	}
	return text
}

// Sum takes a digest.
func (r *Reader) Sum() api.Sum {
	var s api.Sum
	copy(s[:], r.take(len(s)))
	return s
}

// Addr takes an address.
func (r *Reader) Addr() api.Addr {
	var a api.Addr
	b := r.take(len(a.Sum) + 1)
	if r.err == api.OK {
		a.Nth = b[copy(a.Sum[:], b)]
	}
	return a
}

// Left is how many bytes are left.
func (r *Reader) Left() int { return len(r.text) - r.at }

// Fail is what goes wrong, if nothing has yet.
func (r *Reader) Fail(e api.Errno) {
	if r.err == api.OK {
		r.err = e
	}
}

// Err is OK, or what went wrong first.
func (r *Reader) Err() api.Errno { return r.err }

// End is Err, or ErrTrail, if bytes are left.
func (r *Reader) End() api.Errno {
	if r.err == api.OK && r.Left() > 0 {
		return api.ErrTrail
	}
	return r.err
}
