package verify_test

import (
	"bytes"
	"slices"
	"testing"

	"witness/api"
	"witness/verify"
)

// lowKeys are the first keys of three bytes with the height 1.
func lowKeys(n int) [][]byte {
	var l [][]byte
	for i := 0; len(l) < n; i++ {
		if key := []byte{byte(i >> 16), byte(i >> 8), byte(i)}; heightOf(string(key)) == 1 {
			l = append(l, key)
		}
	}
	return l
}

func leafOf(key, value []byte) api.Sum {
	sum := sumOf([]byte{1}, value)
	return sumOf([]byte{0x11}, word(len(key)), key, sum[:])
}

func pairOf(count uint64, key []byte, below, own api.Sum) api.Sum {
	return sumOf([]byte{0x13, 0}, long(count), word(len(key)), key, below[:], own[:])
}

// hung is the label of the head at which keys hang in one chain, all with empty values but the last one.
func hung(keys [][]byte, value []byte, count func(i int) uint64) api.Sum {
	label := leafOf(keys[len(keys)-1], value)
	for i := len(keys) - 1; i > 0; i-- {
		label = pairOf(count(i), keys[i], leafOf(keys[i-1], nil), label)
	}
	label = pairOf(count(0), keys[0], sumOf([]byte{0x12}), label)
	return sumOf([]byte{0x14}, long(uint64(len(keys))), label[:])
}

// TestDeepest: as many parts in one another as a proof's bytes allow, each key within the span; the proof has MaxProof bytes, and is taken.
func TestDeepest(t *testing.T) {
	const each = 9 // bytes of OpBoth with a key of three bytes and the count 1, and of OpIn with an empty value
	room := api.MaxProof - len(proofBytes(1<<20, head))
	keys := lowKeys(room / each)
	value := bytes.Repeat([]byte{'v'}, room%each)
	one := func(int) uint64 { return 1 } // true counts would be longer
	root := hung(keys, value, one)
	proof := number(uint64(len(keys)))
	want := api.Answer{Count: uint64(len(keys))}
	for i, key := range keys {
		proof = append(proof, api.OpBoth, 0, 3, key[0], key[1], key[2], 1)
		if i == 0 {
			proof = append(proof, api.OpHead)
		} else {
			proof = append(proof, api.OpIn, 0)
		}
		want.Entries = append(want.Entries, api.Entry{Key: key})
	}
	want.Entries[len(keys)-1].Value = value
	proof = append(proof, api.OpIn, byte(len(value)))
	proof = append(proof, value...)
	if len(proof) != api.MaxProof || len(keys) < 460000 {
		t.Fatalf("the proof has %d bytes, of %d keys", len(proof), len(keys))
	}
	answers(t, "11.4: Claim of the deepest chain", verify.Claim(root, all, want, proof), api.OK)
	short := proof[: len(proof)-len(value)-2 : len(proof)-len(value)-2]
	for _, c := range []struct {
		what  string
		root  api.Sum
		proof []byte
		want  api.Errno
	}{
		{"under another label", none, proof, api.ErrLabel},
		{"and one byte more", root, append(slices.Clip(proof), api.OpHead), api.ErrLong},
		{"without its last op", root, short, api.ErrEnds},
		{"with OpHead at its end", root, append(short, api.OpHead), api.ErrOp},
		{"with another op behind it", root, append(short, api.OpIn, 0, api.OpHead), api.ErrEnds},
		{"with a count that is one too low", root, cat(number(uint64(len(keys)-1)), proof[3:]), api.ErrCount},
	} {
		if a, e := verify.Span(c.root, all, c.proof); !isZero(a) || e != c.want {
			t.Errorf("11.4: the deepest chain %s: %s, %d, want nothing, %d", c.what, toldAnswer(a), e, c.want)
		}
	}
}

// TestDeepToTheRight: a chain of which the last key alone is asked for.
func TestDeepToTheRight(t *testing.T) {
	const each = 41 // bytes of OpRight with a key of three bytes and a count of three
	keys := lowKeys((api.MaxProof - 100) / each)
	count := func(i int) uint64 { return uint64(1<<20 + i) }
	value := []byte("value")
	root := hung(keys, value, count)
	below := sumOf([]byte{0x12})
	parts := [][]byte{number(uint64(len(keys)))}
	for i, key := range keys {
		parts = append(parts, []byte{api.OpRight, 0, 3}, key, number(count(i)), bytes.Clone(below[:]))
		below = leafOf(key, nil)
	}
	proof := cat(append(parts, []byte{api.OpIn, 5}, value)...)
	if len(proof) > api.MaxProof || len(keys) < 100000 {
		t.Fatalf("the proof has %d bytes, of %d keys", len(proof), len(keys))
	}
	key := keys[len(keys)-1]
	want := api.Answer{Entries: []api.Entry{{Key: key, Value: value}}, Rank: uint64(len(keys) - 1), Count: uint64(len(keys))}
	takes(t, "the last of a deep chain", root, only(string(key)), proof, want)
	if v, there, e := verify.Key(root, key, proof); string(v) != "value" || !there || e != api.OK {
		t.Errorf("11.4: Key of the last of a deep chain: %q, %v, %d", v, there, e)
	}
	refuses(t, "without the last op", root, only(string(key)), proof[:len(proof)-7], api.ErrEnds)
	refuses(t, "OpOut at the end", root, only(string(key)), cat(proof[:len(proof)-7], []byte{api.OpOut}, below[:]), api.ErrOp)
}

// TestManyOpsThatAreLeft: a proof of MaxProof bytes that is one op a byte.
func TestManyOpsThatAreLeft(t *testing.T) {
	if testing.Short() {
		t.Skip("its ops take half a gigabyte")
	}
	proof := bytes.Repeat([]byte{api.OpHead}, api.MaxProof)
	proof[0] = 0
	if a, e := verify.Span(none, all, proof); !isZero(a) || e != api.ErrEnds {
		t.Errorf("11.4: %s, %d, want nothing, %d", toldAnswer(a), e, api.ErrEnds)
	}
}
