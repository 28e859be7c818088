package prove_test

import (
	"bytes"
	"fmt"
	"strings"
	"testing"

	"witness/api"
	"witness/codec"
	"witness/prove"
)

// TestBytesAreReadAgain: codec takes them, and gives the ops.
func TestBytesAreReadAgain(t *testing.T) {
	s := wide(t)
	n := &noise{x: 20}
	m := garden()
	x := s.planted(m)
	for _, in := range some(n, spansOf(bounds(m)), 60) {
		p, _ := prove.Ops(s.b, x, in)
		l, _ := prove.Span(s.b, x, in)
		again, e := codec.ReadProof(l)
		if !sameProof(again, p) || e != api.OK || !bytes.Equal(codec.Proof(p), l) {
			t.Errorf("10.2: the bytes of %s are read as %s, %d, want %s, 0", toldSpan(in), toldProof(again), e, toldProof(p))
		}
	}
}

// TestOnly: the span of one key, of any length.
func TestOnly(t *testing.T) {
	for _, key := range []string{"", "a", "a\x00", "\xff", strings.Repeat("k", api.MaxKey), strings.Repeat("k", api.MaxKey+1), strings.Repeat("k", 5000)} {
		s := prove.Only([]byte(key))
		if string(s.Lo) != key || string(s.Hi) != key+"\x00" || s.Open {
			t.Errorf("10.3: Only(%.20q) = %s, %v", key, toldSpan(s), s.Open)
		}
	}
	if s := prove.Only(nil); len(s.Lo) != 0 || string(s.Hi) != "\x00" || s.Open {
		t.Errorf("10.3: Only(nil) = %s, %v", toldSpan(s), s.Open)
	}
}

// TestKey: of the empty key, of one with MaxKey bytes, of keys that are there and that are not.
func TestKey(t *testing.T) {
	longest := strings.Repeat("k", api.MaxKey)
	for _, m := range []map[string]string{nil, mapOf("", "empty"), mapOf(longest, "long"), mapOf("", "empty", "b", "2", longest, "long"), mapOf("b", "2")} {
		s := wide(t)
		x, p := s.planted(m), planOf(m)
		for _, key := range []string{"", "a", "b", "ba", longest, longest[1:], longest[:1023] + "j", longest[:1023] + "l"} {
			s.holds(x, p, m, prove.Only([]byte(key)))
			l, e := prove.Key(s.b, x, []byte(key))
			same, f := prove.Span(s.b, x, span(key, key+"\x00"))
			if !bytes.Equal(l, same) || e != f || e != api.OK {
				t.Errorf("10.3: Key(%.20q) is not Span: %d, %d", key, e, f)
			}
			proof, _ := codec.ReadProof(l)
			_, there := m[key]
			last := api.Op{}
			for _, o := range proof.Ops {
				if o.Kind == api.OpIn {
					last = o
				}
			}
			if string(last.Value) != m[key] || (last.Kind == api.OpIn) != there {
				t.Errorf("10.3: Key(%.20q) shows %.20q, %v", key, last.Value, last.Kind == api.OpIn)
			}
		}
		s.keyFails(x, longest+"k", api.ErrLimit)
		s.keyFails(x, longest+"\x00", api.ErrLimit)
	}
}

// TestLengthsOfNumbers: counts and lengths whose bytes become more.
func TestLengthsOfNumbers(t *testing.T) {
	for _, length := range []int{0, 1, 126, 127, 128, 129, 16383, 16384, 65535, api.MaxValue} {
		s := wide(t)
		m := mapOf("a", strings.Repeat("v", length), "b", "2")
		s.holds(s.planted(m), planOf(m), m, all)
	}
	for _, length := range []int{126, 127, 128, 129, 1023, api.MaxKey} {
		s := wide(t)
		m := mapOf(strings.Repeat("k", length), "1", "b", "2")
		x := s.planted(m)
		for _, in := range []api.Span{all, from("z"), span("", "a"), prove.Only([]byte("c"))} {
			s.holds(x, planOf(m), m, in)
		}
	}
	for _, size := range []int{126, 127, 128, 129} {
		s := wide(t)
		m := chain(size)
		x := s.planted(m)
		for _, in := range []api.Span{all, from("z"), span("", "a")} {
			s.holds(x, planOf(m), m, in)
		}
	}
}

// TestProofsAtTheirBound: one of MaxProof bytes is given, of one more its size alone.
func TestProofsAtTheirBound(t *testing.T) {
	value := strings.Repeat("v", api.MaxValue)
	m := map[string]string{}
	for i := range 63 {
		m[fmt.Sprintf("k%02d", i)] = value
	}
	m["last"] = ""
	s := wide(t)
	room := api.MaxProof - s.sizeOf(s.planted(m), all) - 2 // of the longer value's length
	if room < 16384 || room >= api.MaxValue {
		t.Fatalf("the last value has room for %d bytes", room)
	}
	for more := range 2 {
		s := wide(t)
		m["last"] = value[:room+more]
		x := s.planted(m)
		if n := s.sizeOf(x, all); n != api.MaxProof+more {
			t.Errorf("10.2: Size = %d, want %d", n, api.MaxProof+more)
		}
		s.holds(x, planOf(m), m, all)
		s.holds(x, planOf(m), m, span("k", "last"))
	}
}

func (s store) sizeOf(x api.Tree, in api.Span) int {
	s.t.Helper()
	n, e := prove.Size(s.b, x, in)
	answers(s.t, "10.2: Size", e, api.OK)
	return n
}

// longChain is keys of MaxKey bytes of which each hangs at the one ahead of it.
func longChain(size int) []string {
	var l []string
	for i := 0; len(l) < size; i++ {
		if key := fmt.Sprintf("%0*d", api.MaxKey, i); heightOf(key) == 1 {
			l = append(l, key)
		}
	}
	return l
}

// TestAKeyAtTheBound: a key's proof is as long as the way to it.
func TestAKeyAtTheBound(t *testing.T) {
	keys := longChain(3900)
	last := keys[len(keys)-1]
	size := 2 + 1 + 3 // the count; OpIn with its value's length
	for i := range keys {
		size += 1 + 1 + 2 + api.MaxKey + len(number(uint64(len(keys)-i))) + 32
	}
	for more := range 2 {
		s := newStore(t, 4090, 4096, 64)
		m := map[string]string{}
		for _, key := range keys {
			m[key] = ""
		}
		m[last] = strings.Repeat("v", api.MaxProof-size+more)
		x := s.planted(m)
		in := prove.Only([]byte(last))
		if n := s.sizeOf(x, in); n != api.MaxProof+more {
			t.Errorf("10.2: Size = %d, want %d", n, api.MaxProof+more)
		}
		want := api.Proof{Count: uint64(len(m)), Ops: planOf(m).walk(in).ops}
		s.proves("a long way", x, in, want)
		s.proves("a long way", x, from(last), want)
		if l, e := prove.Key(s.b, x, []byte(keys[3000])); e != api.OK || len(l) == 0 {
			t.Errorf("10.3: Key of one ahead of it: %d bytes, %d", len(l), e)
		}
	}
}

// TestFarBeyondTheBound: many keys may have one and the same value.
func TestFarBeyondTheBound(t *testing.T) {
	s := wide(t)
	m := map[string]string{}
	for i := range 300 {
		m[fmt.Sprint(i)] = strings.Repeat("v", api.MaxValue)
	}
	x := s.planted(m)
	p := planOf(m)
	want := api.Proof{Count: 300, Ops: p.walk(all).ops}
	s.proves("300 values", x, all, want)
	s.fails("a bound that is too long", x, from(strings.Repeat("k", api.MaxKey+2)), api.ErrLimit)

	last := ""
	for _, tower := range p.walk(all).came {
		last = string(tower.Key)
	}
	s.forget(towerAddr(p.towers[last]))
	s.fails("its last tower cannot be had", x, all, api.ErrTree)
	s.put(api.KindTower, recordOf(p.towers[last]))
	s.proves("300 values again", x, all, want)
	s.turn(valueAddr(m[last]))
	s.fails("its value is damaged", x, all, api.ErrTree)
	s.off()
	s.fails("the power is gone", x, all, api.ErrPower)
}
