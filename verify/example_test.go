package verify_test

import (
	"strings"
	"testing"

	"witness/api"
	"witness/verify"
)

// none is the root label of the map without keys.
var none = func() api.Sum {
	head := sumOf([]byte{0x12})
	return sumOf([]byte{0x14}, make([]byte, 8), head[:])
}()

// TestExamplesOfNoKeys: the chapter's examples 1 to 3, 6, 7 and 10.
func TestExamplesOfNoKeys(t *testing.T) {
	empty := []byte{0, 3}
	takes(t, "example 1", none, all, empty, api.Answer{})
	other := none
	other[0] ^= 1
	refuses(t, "example 1", other, all, empty, api.ErrLabel)

	for proof, want := range map[string]api.Errno{
		"\x00": api.ErrEnds, "\x00\x03\x03": api.ErrEnds, "\x01\x03": api.ErrLabel, "\x00\x01\x00": api.ErrOp, "\x00\x07": api.ErrKind, "": api.ErrShort,
	} {
		refuses(t, "example 2", none, all, []byte(proof), want)
	}
	refuses(t, "example 2", none, all, nil, api.ErrShort)

	for _, proof := range [][]byte{empty, nil, {0, 7}, make([]byte, api.MaxProof+1)} {
		refuses(t, "example 3", none, span("b", "b"), proof, api.ErrBounds)
		refuses(t, "example 3", none, from(strings.Repeat("b", 1026)), proof, api.ErrLimit)
	}

	takes(t, "example 6", none, only("x"), empty, api.Answer{})
	for length, want := range map[int]api.Errno{1023: api.OK, 1024: api.OK, 1025: api.ErrLimit, 1026: api.ErrLimit} {
		if v, there, e := verify.Key(none, make([]byte, length), empty); v != nil || there || e != want {
			t.Errorf("11.2: example 6: Key of %d bytes: %q, %v, %d, want %d", length, v, there, e, want)
		}
	}

	answers(t, "11.3: example 7", verify.Claim(none, all, api.Answer{}, empty), api.OK)
	answers(t, "11.3: example 7, rank 1", verify.Claim(none, all, api.Answer{Rank: 1}, empty), api.ErrAnswer)
	answers(t, "11.3: example 7, one entry", verify.Claim(none, all, api.Answer{Entries: []api.Entry{{}}}, empty), api.ErrAnswer)
	answers(t, "11.3: count 1", verify.Claim(none, all, api.Answer{Count: 1}, empty), api.ErrAnswer)

	refuses(t, "example 10", none, all, make([]byte, 4194305), api.ErrLong)
}

// TestExamplesOfOps: examples 4 and 5.
func TestExamplesOfOps(t *testing.T) {
	refuses(t, "example 4", none, all, []byte{0, 6, 24, 0, 0}, api.ErrLong)
	a := api.Op{Kind: api.OpBoth, Level: 1, Key: []byte("a"), Count: 1} // its height is 2
	head := api.Op{Kind: api.OpHead}
	for level := range 24 {
		if level == 1 {
			continue
		}
		wrong := a
		wrong.Level = level
		refuses(t, "example 4", none, all, proofBytes(1, wrong, head), api.ErrHeight)
		if level > 1 {
			refuses(t, "example 4", none, all, proofBytes(1, a, wrong), api.ErrLevel)
		}
	}
	refuses(t, "example 5", none, from("b"), proofBytes(1, a, head), api.ErrOp)
	c := api.Op{Kind: api.OpBoth, Level: 3, Key: []byte("c"), Count: 1} // its height is 4
	refuses(t, "example 5", none, all, proofBytes(1, c, head, a), api.ErrKey)
	c.Kind = api.OpRight
	refuses(t, "example 5", none, from("c"), proofBytes(1, c, a), api.ErrKey)
}

// TestExamplesOfOneKey: examples 8 and 9.
func TestExamplesOfOneKey(t *testing.T) {
	p := planOf(mapOf("a", "1"))
	head, value := sumOf([]byte{0x12}), sumOf([]byte{1, '1'})
	a := sumOf([]byte{0x11, 0, 0, 0, 1, 'a'}, value[:])
	op := func(kind byte) []byte { return []byte{1, kind, 1, 1, 'a', 1} } // h is 2
	takes(t, "example 8", p.root, all, cat(op(6), []byte{3, 1, 1, '1'}), api.Answer{Entries: listOf(p.m), Count: 1})
	takes(t, "example 8", p.root, span("b", "z"), cat(op(5), head[:], []byte{2}, value[:]), api.Answer{Rank: 1, Count: 1})
	takes(t, "example 8", p.root, span("A", "B"), cat(op(4), a[:], []byte{3}), api.Answer{Count: 1})

	two := cat(op(4), a[:], []byte{3})
	two[5] = 2
	label := sumOf([]byte{0x13, 1}, long(2), word(1), []byte("a"), head[:], a[:])
	fit := sumOf([]byte{0x14}, long(1), label[:])
	refuses(t, "example 9", fit, span("A", "B"), two, api.ErrCount)
	refuses(t, "example 9", p.root, span("A", "B"), two, api.ErrCount)
	two[0] = 2
	fit = sumOf([]byte{0x14}, long(2), label[:])
	takes(t, "two of two", fit, span("A", "B"), two, api.Answer{Count: 2})
}
