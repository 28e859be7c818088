package digest_test

import (
	"crypto/sha256"
	"hash/crc32"
	"sync"
	"testing"

	"witness/api"
	"witness/digest"
)

// registerBehind takes the bits one by one, as 1.7 says it.
func registerBehind(register uint32, text []byte) uint32 {
	for _, b := range text {
		for bit := range 8 {
			x := uint32(b>>bit)&1 ^ register&1
			register >>= 1
			if x == 1 {
				register ^= 0x82f63b78
			}
		}
	}
	return register
}

func TestCheckExamples(t *testing.T) {
	for _, c := range []struct {
		text string
		want uint32
	}{
		{"123456789", 0xe3069283},
		{"a", 0xc1d04330},
		{"\x00", 0x527d5351},
		{"abc", 0x364b3fb7},
		{"", 0},
	} {
		if got := digest.Check([]byte(c.text)); got != c.want {
			t.Errorf("1.7: Check(%q) = %08x, want %08x", c.text, got, c.want)
		}
	}
	if digest.Check() != 0 || digest.Check(nil, []byte{}, nil) != 0 {
		t.Errorf("1.7: Check of nothing is not 0")
	}
}

func TestCheckBitByBit(t *testing.T) {
	table := crc32.MakeTable(crc32.Castagnoli)
	for n := range 300 {
		text := textOf(n)
		got := digest.Check(text)
		if got != ^registerBehind(0xffffffff, text) || got != crc32.Checksum(text, table) {
			t.Errorf("1.7: Check of %d bytes = %08x", n, got)
		}
	}
	for b := range 256 {
		text := []byte{byte(b)}
		if digest.Check(text) != ^registerBehind(0xffffffff, text) {
			t.Errorf("1.7: Check of the byte %d = %08x", b, digest.Check(text))
		}
	}
}

func TestCheckOfAnyCut(t *testing.T) {
	text := textOf(90)
	want := digest.Check(text)
	for i := range len(text) + 1 {
		for j := i; j <= len(text); j++ {
			if digest.Check(text[:i], text[i:j], nil, text[j:]) != want {
				t.Fatalf("1.7: cut at %d and %d", i, j)
			}
			if digest.More(digest.Check(text[:i], text[i:j]), text[j:]) != want {
				t.Fatalf("1.8: cut at %d and %d", i, j)
			}
		}
	}
}

func TestMore(t *testing.T) {
	if got := digest.More(digest.Check([]byte("12345")), []byte("6789")); got != 0xe3069283 {
		t.Errorf("1.8: More = %08x, want e3069283", got)
	}
	text := textOf(20)
	if digest.More(0, text) != digest.Check(text) {
		t.Errorf("1.8: More(0, b) is not Check(b)")
	}
	for _, c := range []uint32{0, 1, 77, 0x80000000, 0x82f63b78, 0xffffffff} {
		if digest.More(c, nil) != c || digest.More(c, []byte{}) != c {
			t.Errorf("1.8: More(%08x, empty) is another one", c)
		}
		if digest.More(c, text) != ^registerBehind(^c, text) {
			t.Errorf("1.8: More(%08x, ..) = %08x", c, digest.More(c, text))
		}
	}
}

// flipped is the text with the burst's bits turned from the bit at on, in the order in which bits are taken.
func flipped(text []byte, at int, burst uint32) []byte {
	out := append([]byte(nil), text...)
	for bit := range 32 {
		if burst>>bit&1 == 1 {
			out[(at+bit)/8] ^= 1 << ((at + bit) % 8)
		}
	}
	return out
}

func TestCheckTellsBursts(t *testing.T) {
	text := textOf(40)
	want := digest.Check(text)
	bursts := []uint32{1, 3, 0x80000001, 0x82f63b78, 0x05ec76f1, 0xffffffff}
	x := uint32(1)
	for range 200 {
		x = x*1664525 + 1013904223
		bursts = append(bursts, x|1)
	}
	for at := range 8*len(text) - 31 {
		for _, burst := range bursts {
			if digest.Check(flipped(text, at, burst)) == want {
				t.Fatalf("1.9: the burst %08x at bit %d is not told", burst, at)
			}
		}
	}
}

func TestCheckOfThreeTexts(t *testing.T) {
	for n := range 100 {
		long := textOf(3 * n)
		one, two, three := long[:n], long[n:2*n], long[2*n:]
		all := make([]byte, n)
		for i := range all {
			all[i] = one[i] ^ two[i] ^ three[i]
		}
		if digest.Check(all) != digest.Check(one)^digest.Check(two)^digest.Check(three) {
			t.Errorf("1.9: three texts of %d bytes", n)
		}
	}
}

func TestManyAtOneTime(t *testing.T) {
	var all sync.WaitGroup
	text := textOf(500)
	// Reckoned by the library, so that the first check sums of all are asked for by many at one time if this test runs alone.
	sum, check := api.Sum(sha256.Sum256(text)), crc32.Checksum(text, crc32.MakeTable(crc32.Castagnoli))
	begun := digest.New()
	begun.Write(text[:100])
	for range 16 {
		own := begun.Fork()
		all.Go(func() {
			for range 100 {
				f := own.Fork()
				f.Write(text[100:])
				if digest.Check(text) != check || digest.Of(text) != sum || f.Sum() != sum {
					t.Errorf("1.10: another answer where many ask at one time")
					return
				}
			}
		})
	}
	all.Wait()
}
