package codec

import (
	"bytes"

	"witness/api"
)

// Writer lays things one behind the other; the zero one has laid down nothing.
type Writer struct {
	laid []byte
}

// Byte lays down a byte.
func (w *Writer) Byte(b byte) { w.laid = append(w.laid, b) }

// Word lays down four bytes, the highest first.
func (w *Writer) Word(n uint32) {
	w.laid = append(w.laid, byte(n>>24), byte(n>>16), byte(n>>8), byte(n))
}

// Long lays down eight bytes, the highest first.
func (w *Writer) Long(n uint64) {
	w.Word(uint32(n >> 32))
	w.Word(uint32(n))
}

// Uint lays down a number, seven bits a byte, the lowest first.
func (w *Writer) Uint(n uint64) {
	for n > 127 {
		w.Byte(byte(n) | 128)
		n >>= 7
	}
	w.Byte(byte(n))
}

// Raw lays down bytes as they are.
func (w *Writer) Raw(b []byte) { w.laid = append(w.laid, b...) }

// Text lays down a text's length and then the text.
func (w *Writer) Text(b []byte) {
	w.Uint(uint64(len(b)))
	w.Raw(b)
}

// Sum lays down a digest.
func (w *Writer) Sum(s api.Sum) { w.Raw(s[:]) }

// Addr lays down an address.
func (w *Writer) Addr(a api.Addr) {
	w.Sum(a.Sum)
	w.Byte(a.Nth)
}

// Len is how many bytes were laid down.
func (w *Writer) Len() int { return len(w.laid) }

// Bytes is all that was laid down.
func (w *Writer) Bytes() []byte { return bytes.Clone(w.laid) }
