package codec_test

import (
	"bytes"
	"hash/crc32"
	"reflect"
	"testing"

	"witness/api"
)

// The bytes of the document's table, made here a second time, so that the program is not held against itself.

func cat(parts ...[]byte) []byte { return bytes.Join(parts, nil) }

func number(n uint64) []byte {
	var b []byte
	for ; n >= 128; n /= 128 {
		b = append(b, byte(n%128+128))
	}
	return append(b, byte(n))
}

func word(n uint32) []byte { return []byte{byte(n >> 24), byte(n >> 16), byte(n >> 8), byte(n)} }

func long(n uint64) []byte { return cat(word(uint32(n>>32)), word(uint32(n))) }

func text(b []byte) []byte { return cat(number(uint64(len(b))), b) }

func checkOf(b []byte) []byte { return word(crc32.Checksum(b, crc32.MakeTable(crc32.Castagnoli))) }

func sumOf(b byte) api.Sum { return api.Sum(bytes.Repeat([]byte{b}, 32)) }

func addrOf(b byte) api.Addr { return api.Addr{Sum: sumOf(b), Nth: b + 1} }

func sumBytes(b byte) []byte { return bytes.Repeat([]byte{b}, 32) }

func addrBytes(b byte) []byte { return cat(sumBytes(b), []byte{b + 1}) }

// noise gives numbers that look like chance and are the same in every run.
type noise struct{ x uint64 }

func (n *noise) next() uint64 {
	n.x = n.x*6364136223846793005 + 1442695040888963407
	return n.x >> 16
}

func (n *noise) below(m int) int { return int(n.next() % uint64(m)) }

func (n *noise) text(most int) []byte {
	b := make([]byte, n.below(most+1))
	for i := range b {
		b[i] = byte(n.next())
	}
	return b
}

// number is one of any length, at most MaxNumber.
func (n *noise) number() uint64 {
	x := n.next() << 16 >> (n.below(64))
	return min(x, api.MaxNumber)
}

func (n *noise) sum() api.Sum { return sumOf(byte(n.next())) }

func (n *noise) addr() api.Addr { return api.Addr{Sum: n.sum(), Nth: uint8(n.next())} }

// field of a record: bytes that can stand there, and wrong ones with what is to be said of them.
type field struct {
	name string
	good []byte
	bad  []wrong
}

type wrong struct {
	b []byte
	e api.Errno
}

func numberField(name string, n, most uint64) field {
	good := number(n)
	padded := bytes.Clone(good)
	padded[len(padded)-1] |= 128
	bad := []wrong{
		{nil, api.ErrShort},
		{padded, api.ErrShort},
		{number(most + 1), api.ErrLong},
		{number(1<<64 - 1), api.ErrLong},
		{cat(bytes.Repeat([]byte{255}, 9), []byte{2}), api.ErrLong},
		{cat([]byte{0x80}, []byte{0}), api.ErrForm},
	}
	if len(good) < 10 {
		bad = append(bad, wrong{cat(padded, []byte{0}), api.ErrForm})
	}
	return field{name, good, bad}
}

func textField(name string, b []byte, most int) field {
	f := numberField(name, uint64(len(b)), uint64(most))
	f.good = text(b)
	f.bad = append(f.bad, wrong{cat(number(uint64(most+1)), make([]byte, most+1)), api.ErrLong}, wrong{number(uint64(most)), api.ErrShort})
	return f
}

func fixedField(name string, good []byte) field {
	return field{name, good, []wrong{{nil, api.ErrShort}, {good[:len(good)-1], api.ErrShort}}}
}

func byteField(name string, b byte, bad ...wrong) field {
	return field{name, []byte{b}, append(bad, wrong{nil, api.ErrShort})}
}

func levelField(name string, level byte) field {
	return byteField(name, level, wrong{[]byte{24}, api.ErrLong}, wrong{[]byte{255}, api.ErrLong})
}

func goods(fields []field) []byte {
	var b []byte
	for _, f := range fields {
		b = append(b, f.good...)
	}
	return b
}

// holdFields holds a record's reading against its fields: all good, a byte behind, and each wrong one at its place, whatever stands behind it.
func holdFields[T any](t *testing.T, promise string, record T, fields []field, write func(T) []byte, read func([]byte) (T, api.Errno)) {
	t.Helper()
	all := goods(fields)
	if b := write(record); !bytes.Equal(b, all) {
		t.Errorf("%s: %T is written as %x, want %x", promise, record, b, all)
	}
	if r, e := read(all); e != api.OK || !alike(r, record) {
		t.Errorf("%s: %T is read as %v, %d, want %v", promise, record, r, e, record)
	}
	var zero T
	for i, f := range fields {
		for _, w := range f.bad {
			front := cat(goods(fields[:i]), w.b)
			tries := [][]byte{front}
			if w.e != api.ErrShort { // what is short is so only at the end
				tries = append(tries, cat(front, goods(fields[i+1:])), cat(front, bytes.Repeat([]byte{255}, 200)))
			}
			for _, b := range tries {
				if r, e := read(b); e != w.e || !reflect.DeepEqual(r, zero) {
					t.Errorf("%s: %T with %s as %.20x: %v, %d, want the zero one, %d", promise, record, f.name, w.b, r, e, w.e)
				}
			}
		}
	}
}

// holdTrail: a record with a byte behind it is not taken.
func holdTrail[T any](t *testing.T, promise string, b []byte, read func([]byte) (T, api.Errno)) {
	t.Helper()
	var zero T
	for _, behind := range [][]byte{{0}, {1}, {255, 255}} {
		if r, e := read(cat(b, behind)); e != api.ErrTrail || !reflect.DeepEqual(r, zero) {
			t.Errorf("%s: %T with %x behind: %v, %d, want the zero one, ErrTrail", promise, r, behind, r, e)
		}
	}
}

// alike: the same records, a nil list and an empty one being the same.
func alike(a, b any) bool { return alikeValues(reflect.ValueOf(a), reflect.ValueOf(b)) }

func alikeValues(a, b reflect.Value) bool {
	switch a.Kind() {
	case reflect.Slice:
		if a.Len() != b.Len() {
			return false
		}
		for i := range a.Len() {
			if !alikeValues(a.Index(i), b.Index(i)) {
				return false
			}
		}
		return true
	case reflect.Struct:
		for i := range a.NumField() {
			if !alikeValues(a.Field(i), b.Field(i)) {
				return false
			}
		}
		return true
	default:
		return a.Interface() == b.Interface()
	}
}
