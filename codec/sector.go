package codec

import (
	"bytes"

	"witness/api"
	"witness/digest"
)

// What a superblock and a segment begin with.
const (
	superLetters  = "witness1"
	headerLetters = "wseg"
)

// Where check sums stand, and how many bytes the records of a disk have.
const (
	superChecked  = 40
	superBytes    = 52
	headerChecked = 12
	headerBytes   = 16
	frameBytes    = 13 // beside its body
)

type super api.Super

func (s super) write(w *recordWriter) {
	w.Raw([]byte(superLetters))
	w.Long(s.Seq)
	w.word(s.Size)
	w.word(s.Sectors)
	w.word(s.Span)
	w.word(s.Page.Seg)
	w.word(s.Page.At)
	w.word(s.Page.Len)
	w.Word(digest.Check(w.Bytes()))
	w.Long(s.Seq)
}

// Super is a superblock's sector of so many bytes.
func Super(s api.Super, size int) []byte {
	if size < superBytes || size > api.MaxSector {
		return nil
	}
	sector := make([]byte, size)
	copy(sector, bytesOf(super(s)))
	return sector
}

// ReadSuper is what a superblock's sector says.
func ReadSuper(b []byte) (api.Super, api.Errno) {
	if len(b) < superBytes {
		return api.Super{}, api.ErrShort
	}
	if len(b) > api.MaxSector {
		return api.Super{}, api.ErrLong
	}
	r := Reader{text: b}
	letters := string(r.take(len(superLetters)))
	s := r.super()
	check := r.Word()
	again := r.Long()
	if letters != superLetters {
		return api.Super{}, api.ErrForm
	}
	if check != digest.Check(b[:superChecked]) {
		return api.Super{}, api.ErrCheck
	}
	if again != s.Seq {
		return api.Super{}, api.ErrTorn
	}
	if !allZeros(b[superBytes:]) {
		return api.Super{}, api.ErrForm
	}
	if s.Seq > api.MaxNumber {
		return api.Super{}, api.ErrLong
	}
	return s, api.OK
}

func (r *Reader) super() api.Super {
	var s api.Super
	s.Seq = r.Long()
	s.Size = int(r.Word())
	s.Sectors = int(r.Word())
	s.Span = int(r.Word())
	s.Page.Seg = int(r.Word())
	s.Page.At = int(r.Word())
	s.Page.Len = int(r.Word())
	return s
}

func allZeros(b []byte) bool { return len(bytes.Trim(b, "\x00")) == 0 }

type header uint64

func (h header) write(w *recordWriter) {
	w.Raw([]byte(headerLetters))
	w.Long(uint64(h))
	w.Word(digest.Check(w.Bytes()))
}

// Header is the first bytes of a segment.
func Header(serial uint64) []byte { return bytesOf(header(serial)) }

// ReadHeader is the serial of the segment that begins with b.
func ReadHeader(b []byte) (uint64, api.Errno) {
	if len(b) < headerBytes {
		return 0, api.ErrShort
	}
	r := Reader{text: b}
	letters := string(r.take(len(headerLetters)))
	serial := r.Long()
	check := r.Word()
	if letters != headerLetters {
		return 0, api.ErrForm
	}
	if check != digest.Check(b[:headerChecked]) {
		return 0, api.ErrCheck
	}
	if serial > api.MaxNumber {
		return 0, api.ErrLong
	}
	return serial, api.OK
}

// framePlace is where a frame lies and what its head says.
type framePlace struct {
	serial uint64
	at     uint32
	length uint32
	kind   byte
}

func (p framePlace) write(w *recordWriter) {
	w.Long(p.serial)
	w.Word(p.at)
	w.Word(p.length)
	w.Byte(p.kind)
}

type frame struct {
	framePlace
	body []byte
}

func (f frame) write(w *recordWriter) {
	place := bytesOf(f.framePlace)
	w.Word(f.length)
	w.Byte(f.kind)
	w.Word(digest.Check(place))
	w.Raw(f.body)
	w.Word(digest.Check(place, f.body))
}

// Frame is a frame's bytes, at its byte of a segment with that serial.
func Frame(serial uint64, at int, f api.Frame) []byte {
	place := framePlace{serial: serial, at: uint32(at), length: uint32(len(f.Body)), kind: f.Kind}
	return bytesOf(frame{framePlace: place, body: f.Body})
}

// ReadFrame reads a frame from the front of b, and tells how many bytes it has.
func ReadFrame(serial uint64, at int, b []byte) (api.Frame, int, api.Errno) {
	if len(b) < frameBytes {
		return api.Frame{}, 0, api.ErrShort
	}
	r := Reader{text: b}
	length := r.Word()
	kind := r.Byte()
	place := bytesOf(framePlace{serial: serial, at: uint32(at), length: length, kind: kind})
	if r.Word() != digest.Check(place) {
		return api.Frame{}, 0, api.ErrCheck
	}
	if length > maxUsed {
		return api.Frame{}, 0, api.ErrLong
	}
	whole := frameBytes + int(length)
	if len(b) < whole {
		return api.Frame{}, 0, api.ErrShort
	}
	body := r.Raw(int(length))
	if r.Word() != digest.Check(place, body) {
		return api.Frame{}, 0, api.ErrCheck
	}
	if kind == 0 || kind >= api.NumKinds {
		return api.Frame{}, 0, api.ErrKind
	}
	return api.Frame{Kind: kind, Body: body}, whole, api.OK
}
