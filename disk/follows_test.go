package disk_test

import (
	"bytes"
	"slices"
	"testing"

	"witness/api"
	"witness/disk"
)

// eachCrash hands on crashes of a cache of so many writes: every Keep, every Torn, and Ats at both ends and between.
func eachCrash(writes int, take func(c api.Crash)) {
	for bits := range 1 << writes {
		keep := make([]bool, writes)
		for i := range keep {
			keep[i] = bits>>i&1 == 1
		}
		take(api.Crash{Keep: keep, Torn: -1})
		for tear := range writes {
			for _, at := range []int{-1, 0, 1, 64, 127, 128, 129} {
				take(api.Crash{Keep: keep, Torn: tear, At: at})
			}
		}
	}
}

// caches are rows of sectors that are written, each with bytes of its own.
var caches = [][]int{{}, {0}, {1}, {0, 0}, {0, 1}, {1, 0, 1}, {1, 1, 1}, {0, 1, 0, 1}, {1, 0, 0, 1, 1}}

// ahead is a disk of three sectors with durable bytes, and with such a cache.
func ahead(t *testing.T, cache []int) *disk.Disk {
	t.Helper()
	d, e := disk.Load(bytes.Join([][]byte{fill('0'), fill('1'), fill('2')}, nil), size)
	answers(t, "3.1", e, api.OK)
	for i, sector := range cache {
		answers(t, "3.4", d.Write(sector, fill(byte('a'+i))), api.OK)
	}
	return d
}

func TestWhatIsNotWrittenStays(t *testing.T) {
	for seed := range 200 {
		n := &noise{uint64(seed)}
		d := ahead(t, nil)
		if n.below(2) == 0 {
			d.Write(2, n.bytes())
			d.Flush()
		}
		want := d.Image()[2*size:]
		for range 60 {
			switch n.below(6) {
			case 0, 1, 2:
				d.Write(n.below(2), n.bytes())
			case 3:
				d.Crash(n.crash(len(d.Pending())))
			case 4:
				d.Rot(n.below(2), n.below(size), byte(n.below(256)))
			case 5:
				d.Fuse(n.below(4) - 1)
				d.Flush()
				d.Write(2, fill('!')[:n.below(size)])
			}
			if !bytes.Equal(d.Image()[2*size:], want) {
				t.Fatalf("3.11: seed %d: a sector that nobody wrote to has other bytes", seed)
			}
		}
	}
}

// TestARefusedWriteLeavesNothing: the sector was written to, but no such write was answered OK.
func TestARefusedWriteLeavesNothing(t *testing.T) {
	d := ahead(t, []int{0, 1})
	d.Fuse(0)
	answers(t, "3.4", d.Write(2, fill('!')), api.ErrPower)
	answers(t, "3.4", d.Write(2, fill('!')), api.ErrPower)
	d.Crash(api.Crash{Keep: []bool{true, true, true, true}, Torn: 2, At: 50})
	shows(t, "3.11", d, fill('a'), fill('b'), fill('2'))
}

func TestWhatACrashLeaves(t *testing.T) {
	for _, cache := range caches {
		before := ahead(t, cache)
		eachCrash(len(cache), func(c api.Crash) {
			d := before.Copy()
			d.Crash(c)
			image := d.Image()
			for sector := range 3 {
				got := image[sector*size : (sector+1)*size]
				from := [][]byte{fill(byte('0' + sector))}
				for i, s := range cache {
					if s == sector {
						from = append(from, fill(byte('a'+i)))
					}
				}
				whole := slices.ContainsFunc(from, func(b []byte) bool { return bytes.Equal(b, got) })
				tornHere := c.Torn >= 0 && cache[c.Torn] == sector
				if !whole && !tornHere {
					t.Errorf("3.12: cache %v, crash %v: sector %d is nothing whole: %q", cache, c, sector, got)
				}
				for at, b := range got {
					if !slices.ContainsFunc(from, func(f []byte) bool { return f[at] == b }) {
						t.Errorf("3.12: cache %v, crash %v: byte %d of sector %d is nobody's", cache, c, at, sector)
					}
				}
			}
		})
	}
}

func TestACrashThatKeepsAllOrNothing(t *testing.T) {
	for seed := range 100 {
		n := &noise{uint64(seed)}
		d := ahead(t, caches[seed%len(caches)])
		for range n.below(6) {
			d.Write(n.below(3), n.bytes())
			d.Rot(n.below(3), n.below(size), byte(n.below(256)))
		}
		keep := make([]bool, len(d.Pending())+n.below(3))
		for i := range keep {
			keep[i] = true
		}
		all, nothing, flushed, image := d.Copy(), d.Copy(), d.Copy(), d.Image()
		all.Crash(api.Crash{Keep: keep, Torn: -1 - n.below(2)})
		nothing.Crash(api.Crash{Torn: len(d.Pending()) + n.below(2), At: n.below(size)})
		answers(t, "3.13", flushed.Flush(), api.OK)
		shows(t, "3.13: all is kept", all, flushed.Image())
		shows(t, "3.13: nothing is kept", nothing, image)
	}
}
