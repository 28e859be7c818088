package codec_test

import (
	"bytes"
	"testing"

	"witness/codec"
)

func TestZeroWriter(t *testing.T) {
	var w codec.Writer
	if w.Len() != 0 || len(w.Bytes()) != 0 {
		t.Errorf("2.1: the zero Writer has %d bytes, %x", w.Len(), w.Bytes())
	}
	w.Raw(nil)
	w.Raw([]byte{})
	if w.Len() != 0 || len(w.Bytes()) != 0 {
		t.Errorf("2.1: nothing laid down is %d bytes, %x", w.Len(), w.Bytes())
	}
}

func TestWriterCalls(t *testing.T) {
	for _, c := range []struct {
		what string
		lay  func(w *codec.Writer)
		want []byte
	}{
		{"Byte(0)", func(w *codec.Writer) { w.Byte(0) }, []byte{0}},
		{"Byte(255)", func(w *codec.Writer) { w.Byte(255) }, []byte{255}},
		{"Word(258)", func(w *codec.Writer) { w.Word(258) }, []byte{0, 0, 1, 2}},
		{"Word(fedcba98)", func(w *codec.Writer) { w.Word(0xfedcba98) }, []byte{0xfe, 0xdc, 0xba, 0x98}},
		{"Long(1)", func(w *codec.Writer) { w.Long(1) }, []byte{0, 0, 0, 0, 0, 0, 0, 1}},
		{"Long(fedcba9876543210)", func(w *codec.Writer) { w.Long(0xfedcba9876543210) }, []byte{0xfe, 0xdc, 0xba, 0x98, 0x76, 0x54, 0x32, 0x10}},
		{"Uint(0)", func(w *codec.Writer) { w.Uint(0) }, []byte{0}},
		{"Uint(127)", func(w *codec.Writer) { w.Uint(127) }, []byte{0x7f}},
		{"Uint(128)", func(w *codec.Writer) { w.Uint(128) }, []byte{0x80, 1}},
		{"Uint(300)", func(w *codec.Writer) { w.Uint(300) }, []byte{0xac, 2}},
		{"Uint(16383)", func(w *codec.Writer) { w.Uint(16383) }, []byte{0xff, 0x7f}},
		{"Uint(16384)", func(w *codec.Writer) { w.Uint(16384) }, []byte{0x80, 0x80, 1}},
		{"Uint(2^63)", func(w *codec.Writer) { w.Uint(1 << 63) }, cat(bytes.Repeat([]byte{0x80}, 9), []byte{1})},
		{"Uint(2^63 - 1)", func(w *codec.Writer) { w.Uint(1<<63 - 1) }, cat(bytes.Repeat([]byte{0xff}, 8), []byte{0x7f})},
		{"Uint(2^64 - 1)", func(w *codec.Writer) { w.Uint(1<<64 - 1) }, cat(bytes.Repeat([]byte{0xff}, 9), []byte{1})},
		{"Raw", func(w *codec.Writer) { w.Raw([]byte{7, 0, 8}) }, []byte{7, 0, 8}},
		{"Text(ab)", func(w *codec.Writer) { w.Text([]byte("ab")) }, []byte{2, 'a', 'b'}},
		{"Text of nil", func(w *codec.Writer) { w.Text(nil) }, []byte{0}},
		{"Text of 128", func(w *codec.Writer) { w.Text(make([]byte, 128)) }, cat([]byte{0x80, 1}, make([]byte, 128))},
		{"Sum", func(w *codec.Writer) { w.Sum(sumOf(9)) }, sumBytes(9)},
		{"Addr", func(w *codec.Writer) { w.Addr(addrOf(4)) }, addrBytes(4)},
	} {
		var w codec.Writer
		c.lay(&w)
		if b := w.Bytes(); !bytes.Equal(b, c.want) || w.Len() != len(c.want) {
			t.Errorf("2.1: %s is %x, of %d bytes, want %x", c.what, b, w.Len(), c.want)
		}
		c.lay(&w)
		if b := w.Bytes(); !bytes.Equal(b, cat(c.want, c.want)) || w.Len() != 2*len(c.want) {
			t.Errorf("2.1: %s twice is %x, of %d bytes", c.what, b, w.Len())
		}
	}
}

func TestEveryLengthOfNumber(t *testing.T) {
	for bits := range 64 {
		for _, n := range []uint64{1 << bits, 1<<bits - 1, 1<<bits + 1} {
			var w codec.Writer
			w.Uint(n)
			if !bytes.Equal(w.Bytes(), number(n)) {
				t.Errorf("2.1: Uint(%d) is %x, want %x", n, w.Bytes(), number(n))
			}
		}
	}
}

func TestWriterBytesAreNew(t *testing.T) {
	var w codec.Writer
	w.Text([]byte("some words"))
	one := w.Bytes()
	two := w.Bytes()
	for i := range one {
		one[i] = 99
	}
	_ = append(one, 98, 98, 98)
	w.Byte(5)
	if !bytes.Equal(two, text([]byte("some words"))) {
		t.Errorf("2.1: two answers share their memory: %x", two)
	}
	if want := cat(text([]byte("some words")), []byte{5}); !bytes.Equal(w.Bytes(), want) || w.Len() != len(want) {
		t.Errorf("2.1: behind Bytes one goes on with %x, want %x", w.Bytes(), want)
	}
}

func TestWriterKeepsNothing(t *testing.T) {
	var w codec.Writer
	room := []byte("abcdef")
	w.Raw(room[:2])
	w.Text(room[:3])
	w.Byte(1)
	if string(room) != "abcdef" {
		t.Errorf("0.4: what was handed in became %q", room)
	}
	room[0] = 'z'
	if want := []byte{'a', 'b', 3, 'a', 'b', 'c', 1}; !bytes.Equal(w.Bytes(), want) {
		t.Errorf("0.4: what was handed in is kept: %x, want %x", w.Bytes(), want)
	}
}

func TestWritersAreApart(t *testing.T) {
	var one, two codec.Writer
	one.Byte(1)
	two.Byte(2)
	one.Byte(3)
	if !bytes.Equal(one.Bytes(), []byte{1, 3}) || !bytes.Equal(two.Bytes(), []byte{2}) {
		t.Errorf("0.3: %x and %x", one.Bytes(), two.Bytes())
	}
}
