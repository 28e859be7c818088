package digest_test

import (
	"encoding/hex"
	"strings"
	"testing"

	"witness/api"
	"witness/digest"
)

func TestHexOfEveryByte(t *testing.T) {
	for b := range 256 {
		for at := range 32 {
			var s api.Sum
			s[at] = byte(b)
			s[31-at] ^= 0xa5
			want := hex.EncodeToString(s[:])
			if got := digest.Hex(s); got != want {
				t.Fatalf("1.4: Hex = %s, want %s", got, want)
			}
			if back, e := digest.Parse(want); back != s || e != api.OK {
				t.Fatalf("1.4: Parse(%s) = %x, %d", want, back, e)
			}
		}
	}
}

func TestHexAndParseOfDigests(t *testing.T) {
	for n := range 100 {
		s := digest.Of(textOf(n))
		if back, e := digest.Parse(digest.Hex(s)); back != s || e != api.OK {
			t.Errorf("1.4: Parse(Hex(%x)) = %x, %d", s, back, e)
		}
	}
	if s, e := digest.Parse(strings.Repeat("0", 64)); s != (api.Sum{}) || e != api.OK {
		t.Errorf("1.4: Parse of 64 zeros = %x, %d", s, e)
	}
	if s, e := digest.Parse(hexOfAbc); s != digest.Of([]byte("abc")) || e != api.OK {
		t.Errorf("1.4: Parse(%s) = %x, %d", hexOfAbc, s, e)
	}
}

func checkRefused(t *testing.T, text string) {
	t.Helper()
	if s, e := digest.Parse(text); s != (api.Sum{}) || e != api.ErrHex {
		t.Errorf("1.4: Parse(%q) = %x, %d, want the zero Sum and ErrHex", text, s, e)
	}
}

func TestParseRefusesOtherLengths(t *testing.T) {
	for n := range 200 {
		if n != 64 {
			checkRefused(t, strings.Repeat("a", n))
		}
	}
	checkRefused(t, hexOfAbc+" ")
	checkRefused(t, hexOfAbc+"\n")
	checkRefused(t, "0x"+hexOfAbc)
	checkRefused(t, "0x"+hexOfAbc[2:])
}

func TestParseRefusesOtherBytes(t *testing.T) {
	for b := range 256 {
		if strings.IndexByte("0123456789abcdef", byte(b)) >= 0 {
			continue
		}
		for _, at := range []int{0, 1, 31, 62, 63} {
			text := []byte(hexOfAbc)
			text[at] = byte(b)
			checkRefused(t, string(text))
		}
	}
	checkRefused(t, strings.ToUpper(hexOfAbc))
	checkRefused(t, strings.Repeat("é", 32))
}

func TestZeros(t *testing.T) {
	if n := digest.Zeros(api.Sum{}); n != 256 {
		t.Errorf("1.5: Zeros of the zero Sum = %d", n)
	}
	for want := range 256 {
		one := api.Sum{}
		one[want/8] = 0x80 >> (want % 8)
		all := one
		for bit := want; bit < 256; bit++ {
			all[bit/8] |= 0x80 >> (bit % 8)
		}
		if digest.Zeros(one) != want || digest.Zeros(all) != want {
			t.Errorf("1.5: Zeros = %d and %d, want %d", digest.Zeros(one), digest.Zeros(all), want)
		}
	}
	if n := digest.Zeros(digest.Of([]byte("886"))); n != 12 {
		t.Errorf("1.5: Zeros of the digest of 886 = %d, want 12", n)
	}
	if n := digest.Zeros(digest.Of([]byte("abc"))); n != 0 {
		t.Errorf("1.5: Zeros of the digest of abc = %d, want 0", n)
	}
}
