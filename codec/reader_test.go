package codec_test

import (
	"bytes"
	"math"
	"testing"

	"witness/api"
	"witness/codec"
)

func TestNewReader(t *testing.T) {
	for _, b := range [][]byte{nil, {}, {7}, {1, 2, 3}} {
		r := codec.NewReader(b)
		if r.Left() != len(b) || r.Err() != api.OK {
			t.Errorf("2.2: a Reader of %x: %d left, %d", b, r.Left(), r.Err())
		}
		want := api.OK
		if len(b) > 0 {
			want = api.ErrTrail
		}
		if r.End() != want || r.Err() != api.OK || r.Left() != len(b) {
			t.Errorf("2.2: End of %x is %d, want %d; then Err is %d, Left is %d", b, r.End(), want, r.Err(), r.Left())
		}
	}
}

func TestReaderReadsTheBytesOfThatMoment(t *testing.T) {
	b := []byte{1, 2, 3, 4}
	r := codec.NewReader(b[:3])
	clear(b)
	if got := r.Raw(3); !bytes.Equal(got, []byte{1, 2, 3}) {
		t.Errorf("2.2: %x was read behind a change", got)
	}
}

func TestFail(t *testing.T) {
	r := codec.NewReader([]byte{1, 2})
	r.Fail(api.OK)
	if r.Err() != api.OK || r.Byte() != 1 {
		t.Errorf("2.2: Fail(OK) is a failure: %d", r.Err())
	}
	r.Fail(api.ErrKind)
	if r.Err() != api.ErrKind || r.End() != api.ErrKind || r.Left() != 1 {
		t.Errorf("2.2: Fail(ErrKind): Err %d, End %d, Left %d", r.Err(), r.End(), r.Left())
	}
	for _, e := range []api.Errno{api.ErrShort, api.OK, -5} {
		r.Fail(e)
		if r.Err() != api.ErrKind {
			t.Errorf("2.2: Fail(%d) behind ErrKind: %d", e, r.Err())
		}
	}
	r = codec.NewReader(nil)
	r.Fail(-5)
	if r.Err() != -5 || r.End() != -5 {
		t.Errorf("2.2: Fail(-5): %d, %d", r.Err(), r.End())
	}
}

// calls are a Reader's calls that take, with how many bytes each needs of noughts.
func calls() []struct {
	name string
	need int
	zero func(r *codec.Reader) bool
} {
	return []struct {
		name string
		need int
		zero func(r *codec.Reader) bool
	}{
		{"Byte", 1, func(r *codec.Reader) bool { return r.Byte() == 0 }},
		{"Word", 4, func(r *codec.Reader) bool { return r.Word() == 0 }},
		{"Long", 8, func(r *codec.Reader) bool { return r.Long() == 0 }},
		{"Sum", 32, func(r *codec.Reader) bool { return r.Sum() == api.Sum{} }},
		{"Addr", 33, func(r *codec.Reader) bool { return r.Addr() == api.Addr{} }},
		{"Raw(5)", 5, func(r *codec.Reader) bool { return r.Raw(5) == nil }},
		{"Uint(9)", 1, func(r *codec.Reader) bool { return r.Uint(9) == 0 }},
		{"Text(9)", 1, func(r *codec.Reader) bool { return r.Text(9) == nil }},
	}
}

func TestFailedReaderTakesNothing(t *testing.T) {
	for _, c := range calls() {
		for _, b := range [][]byte{bytes.Repeat([]byte{1}, 40), bytes.Repeat([]byte{0x80}, 40), nil} {
			r := codec.NewReader(b)
			r.Fail(api.ErrOrder)
			if !c.zero(r) || r.Left() != len(b) || r.Err() != api.ErrOrder || r.End() != api.ErrOrder {
				t.Errorf("2.3: %s of a failed Reader of %x: %d left, Err %d", c.name, b, r.Left(), r.Err())
			}
		}
	}
	r := codec.NewReader([]byte{1, 1, 1})
	r.Fail(api.ErrOrder)
	if r.Raw(0) != nil || r.Raw(-1) != nil || r.Text(-1) != nil || r.Err() != api.ErrOrder || r.Left() != 3 {
		t.Errorf("2.3: Raw or Text of a failed Reader: Err %d, Left %d", r.Err(), r.Left())
	}
}

func TestTakenBytes(t *testing.T) {
	b := make([]byte, 40)
	for i := range b {
		b[i] = byte(i + 1)
	}
	r := codec.NewReader(b)
	if n := r.Byte(); n != 1 || r.Left() != 39 {
		t.Errorf("2.3: Byte: %d, %d left", n, r.Left())
	}
	if n := r.Word(); n != 0x02030405 || r.Left() != 35 {
		t.Errorf("2.3: Word: %x, %d left", n, r.Left())
	}
	if n := r.Long(); n != 0x060708090a0b0c0d || r.Left() != 27 {
		t.Errorf("2.3: Long: %x, %d left", n, r.Left())
	}
	if got := r.Raw(3); !bytes.Equal(got, []byte{14, 15, 16}) || r.Left() != 24 {
		t.Errorf("2.3: Raw: %x, %d left", got, r.Left())
	}
	r = codec.NewReader(b)
	if s := r.Sum(); !bytes.Equal(s[:], b[:32]) || r.Left() != 8 {
		t.Errorf("2.3: Sum: %x, %d left", s, r.Left())
	}
	r = codec.NewReader(b)
	if a := r.Addr(); !bytes.Equal(a.Sum[:], b[:32]) || a.Nth != 33 || r.Left() != 7 || r.Err() != api.OK {
		t.Errorf("2.3: Addr: %v, %d left", a, r.Left())
	}
}

func TestOneByteTooFew(t *testing.T) {
	for _, c := range calls() {
		r := codec.NewReader(make([]byte, c.need))
		c.zero(r)
		if r.Err() != api.OK || r.Left() != 0 || r.End() != api.OK {
			t.Errorf("2.3: %s of %d bytes: Err %d, Left %d", c.name, c.need, r.Err(), r.Left())
		}
		for n := range c.need {
			r := codec.NewReader(bytes.Repeat([]byte{0xee}, n))
			if !c.zero(r) || r.Err() != api.ErrShort || r.Left() != n || r.End() != api.ErrShort {
				t.Errorf("2.3: %s of %d bytes: Err %d, Left %d", c.name, n, r.Err(), r.Left())
			}
		}
	}
}

func TestRaw(t *testing.T) {
	for _, c := range []struct {
		n    int
		want []byte
		e    api.Errno
	}{
		{0, nil, api.OK}, {1, []byte{1}, api.OK}, {3, []byte{1, 2, 3}, api.OK},
		{4, nil, api.ErrShort}, {-1, nil, api.ErrShort}, {math.MaxInt, nil, api.ErrShort}, {math.MinInt, nil, api.ErrShort},
	} {
		r := codec.NewReader([]byte{1, 2, 3})
		if got := r.Raw(c.n); !bytes.Equal(got, c.want) || r.Err() != c.e || r.Left() != 3-len(c.want) {
			t.Errorf("2.3: Raw(%d) is %x, %d, %d left", c.n, got, r.Err(), r.Left())
		}
	}
	r := codec.NewReader(nil)
	if len(r.Raw(0)) != 0 || r.Err() != api.OK {
		t.Errorf("2.3: Raw(0) of nothing: %d", r.Err())
	}
	if r.Raw(-1); r.Err() != api.ErrShort {
		t.Errorf("2.3: Raw(-1) of nothing: %d", r.Err())
	}
}

func TestUint(t *testing.T) {
	ones := bytes.Repeat([]byte{255}, 9)
	greatest := uint64(1<<64 - 1)
	for _, c := range []struct {
		b    []byte
		most uint64
		n    uint64
		e    api.Errno
	}{
		{[]byte{0}, 0, 0, api.OK},
		{[]byte{1}, 0, 0, api.ErrLong},
		{[]byte{127}, 127, 127, api.OK},
		{[]byte{127}, 126, 0, api.ErrLong},
		{[]byte{0x80, 1}, 128, 128, api.OK},
		{[]byte{0x80, 1}, 127, 0, api.ErrLong},
		{nil, greatest, 0, api.ErrShort},
		{[]byte{0x80}, greatest, 0, api.ErrShort},
		{[]byte{0x80}, 0, 0, api.ErrShort},
		{[]byte{0xff, 0xff}, 3, 0, api.ErrShort},
		{ones, greatest, 0, api.ErrShort},
		{[]byte{0x80, 0}, greatest, 0, api.ErrForm},
		{[]byte{0x80, 0}, 0, 0, api.ErrForm},
		{[]byte{0xff, 0}, 3, 0, api.ErrForm},
		{[]byte{0xff, 0x80, 0}, 3, 0, api.ErrForm},
		{[]byte{0x80, 0x80, 1}, greatest, 1 << 14, api.OK},
		{cat(ones, []byte{1}), greatest, greatest, api.OK},
		{cat(ones, []byte{1}), greatest - 1, 0, api.ErrLong},
		{cat(ones, []byte{0}), greatest, 0, api.ErrForm},
		{cat(ones, []byte{2}), greatest, 0, api.ErrLong},
		{cat(ones, []byte{0x80}), greatest, 0, api.ErrLong},
		{cat(ones, []byte{0x81, 1}), greatest, 0, api.ErrLong},
		{cat(ones, []byte{255}), greatest, 0, api.ErrLong},
		{cat(bytes.Repeat([]byte{0x80}, 9), []byte{1}), greatest, 1 << 63, api.OK},
	} {
		for _, behind := range [][]byte{nil, {0}, {255, 1}} {
			b := cat(c.b, behind)
			if c.e == api.ErrShort && len(behind) > 0 {
				continue
			}
			r := codec.NewReader(b)
			left := len(b)
			if c.e == api.OK {
				left = len(behind)
			}
			if n := r.Uint(c.most); n != c.n || r.Err() != c.e || r.Left() != left {
				t.Errorf("2.3: Uint(%d) of %x: %d, Err %d, %d left; want %d, %d, %d", c.most, b, n, r.Err(), r.Left(), c.n, c.e, left)
			}
		}
	}
}

func TestUintOfEveryLength(t *testing.T) {
	for bits := range 64 {
		for _, n := range []uint64{1 << bits, 1<<bits - 1, 1<<bits + 1} {
			r := codec.NewReader(number(n))
			if got := r.Uint(n); got != n || r.End() != api.OK {
				t.Errorf("2.3: Uint(%d) of its bytes: %d, End %d", n, got, r.End())
			}
			if n == 0 {
				continue
			}
			r = codec.NewReader(number(n))
			if got := r.Uint(n - 1); got != 0 || r.Err() != api.ErrLong || r.Left() != len(number(n)) {
				t.Errorf("2.3: Uint(%d) of the bytes of %d: %d, Err %d", n-1, n, got, r.Err())
			}
		}
	}
}

func TestText(t *testing.T) {
	for _, c := range []struct {
		b    []byte
		most int
		want string
		e    api.Errno
		left int
	}{
		{[]byte{3, 'a', 'b'}, 2, "", api.ErrLong, 3},
		{[]byte{3, 'a', 'b'}, 3, "", api.ErrShort, 3},
		{[]byte{3, 'a', 'b'}, -1, "", api.ErrLong, 3},
		{[]byte{3, 'a', 'b', 'c'}, 3, "abc", api.OK, 0},
		{[]byte{3, 'a', 'b', 'c'}, 2, "", api.ErrLong, 4},
		{[]byte{2, 'a', 'b', 'c'}, 2, "ab", api.OK, 1},
		{[]byte{0}, 0, "", api.OK, 0},
		{[]byte{1, 'a'}, 0, "", api.ErrLong, 2},
		{[]byte{1, 'a'}, 1, "a", api.OK, 0},
		{[]byte{0}, math.MinInt, "", api.ErrLong, 1},
		{[]byte{0, 5}, -1, "", api.ErrLong, 2},
		{nil, -1, "", api.ErrShort, 0},
		{[]byte{0x80}, -1, "", api.ErrShort, 1},
		{[]byte{0x80, 0}, -1, "", api.ErrForm, 2},
		{[]byte{0x83, 0, 'a', 'b', 'c'}, 3, "", api.ErrForm, 5},
		{nil, 3, "", api.ErrShort, 0},
		{number(math.MaxInt), math.MaxInt, "", api.ErrShort, 9},
		{number(math.MaxInt + 1), math.MaxInt, "", api.ErrLong, 10},
		{number(math.MaxUint64), math.MaxInt, "", api.ErrLong, 10},
	} {
		r := codec.NewReader(c.b)
		if got := r.Text(c.most); string(got) != c.want || r.Err() != c.e || r.Left() != c.left {
			t.Errorf("2.3: Text(%d) of %x: %q, Err %d, %d left; want %q, %d, %d", c.most, c.b, got, r.Err(), r.Left(), c.want, c.e, c.left)
		}
		if c.e != api.OK && (r.Text(c.most) != nil || r.Byte() != 0 || r.Left() != c.left || r.End() != c.e) {
			t.Errorf("2.3: behind a text that is wrong: Left %d, End %d", r.Left(), r.End())
		}
	}
}

func TestTheFirstFaultStays(t *testing.T) {
	r := codec.NewReader([]byte{0x80, 1, 5})
	if n := r.Uint(200); n != 128 || r.Left() != 1 {
		t.Errorf("2.3: %d, %d left", n, r.Left())
	}
	if n := r.Uint(4); n != 0 || r.Err() != api.ErrLong || r.Left() != 1 {
		t.Errorf("2.3: %d, Err %d, %d left", n, r.Err(), r.Left())
	}
	if r.Byte() != 0 || r.Word() != 0 || r.Raw(9) != nil || r.Left() != 1 || r.End() != api.ErrLong {
		t.Errorf("2.2: End is %d, %d left", r.End(), r.Left())
	}
}

func TestAnswersOfAReaderAreNew(t *testing.T) {
	b := []byte{2, 'a', 'b', 2, 'c', 'd', 9}
	r := codec.NewReader(b)
	one := r.Text(2)
	_ = append(one, 77, 77)
	two := r.Raw(3)
	if !bytes.Equal(two, []byte{2, 'c', 'd'}) {
		t.Errorf("0.4: what lies behind an answer is the Reader's: %x", two)
	}
	_ = append(two, 77)
	if r.Byte() != 9 || string(one) != "ab" {
		t.Errorf("0.4: answers share their memory")
	}
	if !bytes.Equal(b, []byte{2, 'a', 'b', 2, 'c', 'd', 9}) {
		t.Errorf("0.4: what was handed in became %x", b)
	}
}

// What a Reader answers hangs on its bytes and the calls up to then: two that are asked alike answer alike, whatever is asked between.
func TestReadersAreApart(t *testing.T) {
	b := make([]byte, 60)
	for i := range b {
		b[i] = byte(3 * i)
	}
	n := noise{1}
	one, two := codec.NewReader(b), codec.NewReader(b)
	for range 40 {
		most := n.next() % 200
		x := one.Uint(most)
		one.Left()
		one.End()
		one.Err()
		if y := two.Uint(most); x != y || one.Err() != two.Err() || one.Left() != two.Left() {
			t.Errorf("2.12: %d and %d, %d and %d", x, y, one.Err(), two.Err())
		}
	}
}
