package codec_test

import (
	"bytes"
	"testing"

	"witness/api"
	"witness/codec"
)

func superOf(seq uint64) api.Super {
	return api.Super{Seq: seq, Size: 128, Sectors: 34, Span: 8, Page: api.Place{Seg: 1, At: 40, Len: 90}}
}

// superBytes is a superblock's sector, with two numbers Seq.
func superBytes(s api.Super, again uint64, size int) []byte {
	b := cat([]byte("witness1"), long(s.Seq), word(uint32(s.Size)), word(uint32(s.Sectors)), word(uint32(s.Span)), word(uint32(s.Page.Seg)), word(uint32(s.Page.At)), word(uint32(s.Page.Len)))
	b = cat(b, checkOf(b), long(again))
	return cat(b, make([]byte, size-len(b)))
}

func TestSuper(t *testing.T) {
	greatest := 1<<32 - 1
	for _, s := range []api.Super{{}, superOf(1), superOf(api.MaxNumber), {Seq: 2, Size: greatest, Sectors: greatest, Span: greatest, Page: api.Place{Seg: greatest, At: greatest, Len: greatest}}} {
		for _, size := range []int{52, 53, 128, 4095, 4096} {
			b := codec.Super(s, size)
			if !bytes.Equal(b, superBytes(s, s.Seq, size)) {
				t.Errorf("2.8: Super of %d bytes is %x", size, b)
			}
			if x, e := codec.ReadSuper(b); e != api.OK || x != s {
				t.Errorf("2.8: of %d bytes %v, %d is read, want %v", size, x, e, s)
			}
		}
		for _, size := range []int{51, 0, -1, -1 << 63, 4097, 1<<63 - 1} {
			if b := codec.Super(s, size); b != nil {
				t.Errorf("2.8: Super of %d bytes is %x", size, b)
			}
		}
	}
}

func TestSuperOfWideFields(t *testing.T) {
	s := api.Super{Seq: 1<<64 - 1, Size: -1, Sectors: 1<<32 + 5, Span: 1 << 32, Page: api.Place{Seg: -2, At: 1<<40 + 7, Len: 3}}
	if b := codec.Super(s, 64); !bytes.Equal(b, superBytes(s, s.Seq, 64)) {
		t.Errorf("2.4: a field's lowest 32 bits are written: %x", b)
	}
	if x, e := codec.ReadSuper(codec.Super(s, 64)); e != api.ErrLong || x != (api.Super{}) {
		t.Errorf("2.8: Seq 2^64 - 1: %v, %d", x, e)
	}
}

func TestReadSuperErrors(t *testing.T) {
	good := superBytes(superOf(7), 7, 128)
	with := func(b []byte, at int, x byte) []byte {
		b = bytes.Clone(b)
		b[at] = x
		return b
	}
	torn := superBytes(superOf(7), 8, 128)
	high := superBytes(superOf(api.MaxNumber+1), api.MaxNumber+1, 128)
	for _, c := range []struct {
		what string
		b    []byte
		e    api.Errno
	}{
		{"nothing", nil, api.ErrShort},
		{"51 bytes", good[:51], api.ErrShort},
		{"51 bytes of other letters", make([]byte, 51), api.ErrShort},
		{"52 bytes", good[:52], api.OK},
		{"4096 bytes", superBytes(superOf(7), 7, 4096), api.OK},
		{"4097 bytes", superBytes(superOf(7), 7, 4097), api.ErrLong},
		{"4097 bytes of other letters", make([]byte, 4097), api.ErrLong},
		{"zeros", make([]byte, 128), api.ErrForm},
		{"another first letter", with(good, 0, 'W'), api.ErrForm},
		{"another last letter", with(good, 7, '2'), api.ErrForm},
		{"other letters and another check sum", with(with(good, 0, 'W'), 43, good[43]+1), api.ErrForm},
		{"another Seq", with(good, 15, 8), api.ErrCheck},
		{"another last word", with(good, 39, 91), api.ErrCheck},
		{"another check sum", with(good, 40, good[40]+1), api.ErrCheck},
		{"another check sum, and torn", with(torn, 43, torn[43]+1), api.ErrCheck},
		{"torn", torn, api.ErrTorn},
		{"torn, and a byte behind", with(torn, 127, 1), api.ErrTorn},
		{"another last byte of the second Seq", with(good, 51, 0), api.ErrTorn},
		{"torn above the bound", superBytes(superOf(api.MaxNumber+1), 3, 128), api.ErrTorn},
		{"a byte behind the 52nd", with(good, 52, 1), api.ErrForm},
		{"the last byte", with(good, 127, 1), api.ErrForm},
		{"a byte behind, and above the bound", with(high, 60, 9), api.ErrForm},
		{"Seq at its bound", superBytes(superOf(api.MaxNumber), api.MaxNumber, 128), api.OK},
		{"Seq above its bound", high, api.ErrLong},
	} {
		x, e := codec.ReadSuper(c.b)
		if e != c.e || e != api.OK && x != (api.Super{}) {
			t.Errorf("2.8: %s: %v, %d, want %d", c.what, x, e, c.e)
		}
	}
}

// A sector of which the front is of one superblock, and what is behind of the one before.
func TestTornSuper(t *testing.T) {
	older, newer := codec.Super(superOf(7), 128), codec.Super(api.Super{Seq: 9, Size: 128, Sectors: 34, Span: 8, Page: api.Place{Seg: 2, At: 16, Len: 91}}, 128)
	for cut := range 129 {
		b := cat(newer[:cut], older[cut:])
		x, e := codec.ReadSuper(b)
		whole := bytes.Equal(b, older) || bytes.Equal(b, newer)
		if whole != (e == api.OK) || !whole && x != (api.Super{}) {
			t.Errorf("2.8: cut at %d: %v, %d", cut, x, e)
		}
		if cut >= 44 && !whole && e != api.ErrTorn {
			t.Errorf("2.8: cut at %d: %d, want ErrTorn", cut, e)
		}
	}
}

func headerBytes(serial uint64) []byte {
	b := cat([]byte("wseg"), long(serial))
	return cat(b, checkOf(b))
}

func TestHeader(t *testing.T) {
	for _, serial := range []uint64{0, 1, 258, api.MaxNumber, api.MaxNumber + 1, 1<<64 - 1} {
		b := codec.Header(serial)
		if !bytes.Equal(b, headerBytes(serial)) {
			t.Errorf("2.9: Header(%d) is %x, want %x", serial, b, headerBytes(serial))
		}
		want, wantE := serial, api.OK
		if serial > api.MaxNumber {
			want, wantE = 0, api.ErrLong
		}
		for _, behind := range [][]byte{nil, {0}, {1, 255, 3}} {
			if n, e := codec.ReadHeader(cat(b, behind)); n != want || e != wantE {
				t.Errorf("2.9: of the header of %d with %x behind: %d, %d", serial, behind, n, e)
			}
		}
	}
}

func TestReadHeaderErrors(t *testing.T) {
	good := headerBytes(5)
	changed := func(b []byte, places ...int) []byte {
		b = bytes.Clone(b)
		for _, at := range places {
			b[at] ^= 0x20
		}
		return b
	}
	for _, c := range []struct {
		what string
		b    []byte
		e    api.Errno
	}{
		{"nothing", nil, api.ErrShort},
		{"15 bytes", good[:15], api.ErrShort},
		{"15 bytes of other letters", make([]byte, 15), api.ErrShort},
		{"zeros", make([]byte, 16), api.ErrForm},
		{"other letters", changed(good, 3), api.ErrForm},
		{"other letters and another check sum", changed(good, 0, 15), api.ErrForm},
		{"another serial", changed(good, 11), api.ErrCheck},
		{"another check sum", changed(good, 12), api.ErrCheck},
		{"above the bound, with another check sum", changed(headerBytes(api.MaxNumber+1), 15), api.ErrCheck},
		{"above the bound", headerBytes(api.MaxNumber + 1), api.ErrLong},
	} {
		if n, e := codec.ReadHeader(c.b); n != 0 || e != c.e {
			t.Errorf("2.9: %s: %d, %d, want %d", c.what, n, e, c.e)
		}
	}
}

// frameOf is a frame's bytes; the length is told apart from the body, so that it can be wrong.
func frameOf(serial uint64, at, length uint32, kind byte, body []byte) []byte {
	head := cat(word(length), []byte{kind})
	place := cat(long(serial), word(at), head)
	return cat(head, checkOf(place), body, checkOf(cat(place, body)))
}

func TestFrame(t *testing.T) {
	for _, c := range []struct {
		serial uint64
		at     int
		f      api.Frame
	}{
		{1, 16, api.Frame{Kind: 1, Body: []byte{0, 'x'}}},
		{0, 0, api.Frame{Kind: 5}},
		{api.MaxNumber, 4194303, api.Frame{Kind: 2, Body: bytes.Repeat([]byte{7}, 1000)}},
		{1<<64 - 1, 1<<32 - 1, api.Frame{Kind: 3, Body: []byte{1}}},
		{9, 100, api.Frame{Kind: 4, Body: make([]byte, 4194304)}},
	} {
		want := frameOf(c.serial, uint32(c.at), uint32(len(c.f.Body)), c.f.Kind, c.f.Body)
		b := codec.Frame(c.serial, c.at, c.f)
		if !bytes.Equal(b, want) || len(b) != len(c.f.Body)+13 {
			t.Errorf("2.10: Frame(%d, %d) is %.40x, want %.40x", c.serial, c.at, b, want)
		}
		for _, behind := range [][]byte{nil, {0}, b[:9]} {
			if f, n, e := codec.ReadFrame(c.serial, c.at, cat(b, behind)); e != api.OK || n != len(b) || !alike(f, c.f) {
				t.Errorf("2.10: frame at %d with %d bytes behind: %d bytes, %d", c.at, len(behind), n, e)
			}
		}
	}
}

func TestFrameAtOddPlaces(t *testing.T) {
	f := api.Frame{Kind: 1, Body: []byte("b")}
	for _, at := range []int{-1, -1 << 63, 1 << 32, 1<<40 + 16, 1<<63 - 1} {
		b := codec.Frame(3, at, f)
		if !bytes.Equal(b, frameOf(3, uint32(at), 1, 1, f.Body)) {
			t.Errorf("2.4: of the place %d its lowest 32 bits are written: %x", at, b)
		}
		if x, n, e := codec.ReadFrame(3, at, b); e != api.OK || n != 14 || !alike(x, f) {
			t.Errorf("2.10: at %d: %v, %d, %d", at, x, n, e)
		}
	}
}

func TestReadFrameErrors(t *testing.T) {
	good := frameOf(1, 16, 2, 1, []byte{0, 'x'})
	changed := func(b []byte, at int) []byte {
		b = bytes.Clone(b)
		b[at]++
		return b
	}
	for _, c := range []struct {
		what   string
		serial uint64
		at     int
		b      []byte
		e      api.Errno
	}{
		{"nothing", 1, 16, nil, api.ErrShort},
		{"12 bytes", 1, 16, good[:12], api.ErrShort},
		{"12 bytes of zeros", 1, 16, make([]byte, 12), api.ErrShort},
		{"13 bytes of zeros", 1, 16, make([]byte, 13), api.ErrCheck},
		{"13 of 15 bytes", 1, 16, good[:13], api.ErrShort},
		{"14 of 15 bytes", 1, 16, good[:14], api.ErrShort},
		{"14 of 15 bytes at another place", 1, 17, good[:14], api.ErrCheck},
		{"another place", 1, 17, good, api.ErrCheck},
		{"another serial", 2, 16, good, api.ErrCheck},
		{"another length", 1, 16, changed(good, 0), api.ErrCheck},
		{"a length above its bound with another check sum", 1, 16, changed(frameOf(1, 16, 4194305, 1, nil), 5), api.ErrCheck},
		{"a length above its bound", 1, 16, frameOf(1, 16, 4194305, 1, nil), api.ErrLong},
		{"the greatest length", 1, 16, frameOf(1, 16, 1<<32-1, 1, nil), api.ErrLong},
		{"a length above its bound that is there", 1, 16, frameOf(1, 16, 4194305, 1, make([]byte, 4194305)), api.ErrLong},
		{"a length above its bound of another kind", 1, 16, frameOf(1, 16, 4194305, 0, nil), api.ErrLong},
		{"a length at its bound that is not there", 1, 16, frameOf(1, 16, 4194304, 1, nil), api.ErrShort},
		{"another kind that is short", 1, 16, frameOf(1, 16, 1, 6, nil), api.ErrShort},
		{"another kind with another check sum", 1, 16, changed(frameOf(1, 16, 1, 6, []byte{1}), 13), api.ErrCheck},
		{"another body", 1, 16, changed(good, 10), api.ErrCheck},
		{"another check sum", 1, 16, changed(good, 14), api.ErrCheck},
		{"the kind 0", 1, 16, frameOf(1, 16, 0, 0, nil), api.ErrKind},
		{"the kind 6", 1, 16, frameOf(1, 16, 1, 6, []byte{1}), api.ErrKind},
		{"the kind 255", 1, 16, frameOf(1, 16, 1, 255, []byte{1}), api.ErrKind},
	} {
		if f, n, e := codec.ReadFrame(c.serial, c.at, c.b); e != c.e || n != 0 || f.Kind != 0 || f.Body != nil {
			t.Errorf("2.10: %s: %v, %d, %d, want the zero frame, 0, %d", c.what, f, n, e, c.e)
		}
	}
	for _, kind := range []byte{0, 6, 255} {
		if b := codec.Frame(1, 16, api.Frame{Kind: kind, Body: []byte("b")}); !bytes.Equal(b, frameOf(1, 16, 1, kind, []byte("b"))) {
			t.Errorf("2.4: a frame of the kind %d is written as %x", kind, b)
		}
	}
}

func TestFramesAtOtherPlaces(t *testing.T) {
	for _, body := range [][]byte{nil, {0}, []byte("some body"), make([]byte, 300)} {
		b := codec.Frame(4, 1000, api.Frame{Kind: 2, Body: body})
		for at := range 3000 {
			if _, _, e := codec.ReadFrame(4, at, b); at != 1000 && e != api.ErrCheck {
				t.Errorf("2.13: a frame of byte 1000 at byte %d: %d", at, e)
			}
		}
		for bit := range 32 {
			if _, _, e := codec.ReadFrame(4, 1000^1<<bit, b); e != api.ErrCheck {
				t.Errorf("2.13: a frame of byte 1000 at byte %d: %d", 1000^1<<bit, e)
			}
		}
		for serial := range uint64(200) {
			if _, _, e := codec.ReadFrame(serial, 1000, b); serial != 4 && e != api.ErrCheck {
				t.Errorf("2.10: a frame of the serial 4 with the serial %d: %d", serial, e)
			}
		}
	}
}

// eachOtherByte hands on b with one of its first n bytes changed, to each other one.
func eachOtherByte(b []byte, n int, look func(at int, b []byte)) {
	b = bytes.Clone(b)
	for at := range n {
		was := b[at]
		for x := range 256 {
			if b[at] = byte(x); b[at] != was {
				look(at, b)
			}
		}
		b[at] = was
	}
}

func TestOneByteChanged(t *testing.T) {
	for _, body := range [][]byte{nil, {0}, []byte("some body")} {
		frame := codec.Frame(4, 1000, api.Frame{Kind: 2, Body: body})
		eachOtherByte(frame, len(frame), func(at int, b []byte) {
			if f, n, e := codec.ReadFrame(4, 1000, b); e != api.ErrCheck || n != 0 || f.Kind != 0 || f.Body != nil {
				t.Errorf("2.13: a frame with %x as byte %d: %v, %d", b[at], at, f, e)
			}
			if _, _, e := codec.ReadFrame(4, 1000, cat(b, frame)); e != api.ErrCheck {
				t.Errorf("2.13: a frame with %x as byte %d, and bytes behind: %d", b[at], at, e)
			}
		})
	}
	for _, serial := range []uint64{0, 1, api.MaxNumber} {
		eachOtherByte(codec.Header(serial), 16, func(at int, b []byte) {
			if n, e := codec.ReadHeader(b); e == api.OK || n != 0 {
				t.Errorf("2.13: a header with %x as byte %d: %d, %d", b[at], at, n, e)
			}
		})
	}
	for _, seq := range []uint64{0, 1, api.MaxNumber} {
		eachOtherByte(codec.Super(superOf(seq), 128), 44, func(at int, b []byte) {
			if s, e := codec.ReadSuper(b); e == api.OK || s != (api.Super{}) {
				t.Errorf("2.13: a superblock with %x as byte %d: %v, %d", b[at], at, s, e)
			}
		})
	}
}
