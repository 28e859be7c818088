package digest_test

import (
	"crypto/hmac"
	"crypto/sha256"
	"testing"

	"witness/api"
	"witness/digest"
)

func TestMacExamples(t *testing.T) {
	for _, c := range []struct {
		what      string
		key, text []byte
		want      string
	}{
		{"key", []byte("key"), []byte("The quick brown fox jumps over the lazy dog"), "f7bc83f430538424b13298e6aa6fb143ef4d59a14946175997479dbc2d1a3cd8"},
		{"nil, nil", nil, nil, "b613679a0814d9ec772f95d778c35fc5ff1697c493715653c6c712144292c5ad"},
		{"key of 64", letters("k", 64), []byte("text"), "0414bb1d8c0c4556cdb2028727b16610ae377b1a194b6db1f853d4297f2329bc"},
		{"key of 65", letters("k", 65), []byte("text"), "5b69580123e3d7e788b7e8352ac37a3247b911c5ec0837147b74109a6382d3f5"},
	} {
		wantHex(t, "1.6", c.what, digest.Mac(c.key, c.text), c.want)
	}
}

func TestMacOfEveryKeyLength(t *testing.T) {
	for n := range 200 {
		key, text := textOf(n), textOf(300-n)
		want := hmac.New(sha256.New, key)
		want.Write(text)
		if digest.Mac(key, text) != api.Sum(want.Sum(nil)) {
			t.Errorf("1.6: key of %d bytes, text of %d", n, len(text))
		}
	}
}

func TestMacOfLongKeyIsThatOfItsDigest(t *testing.T) {
	key, text := textOf(65), textOf(10)
	short := digest.Of(key)
	if digest.Mac(key, text) != digest.Mac(short[:], text) {
		t.Errorf("1.6: a key of 65 bytes does not give way to its digest")
	}
}
