package disk_test

import (
	"bytes"
	"math"
	"slices"
	"testing"

	"witness/api"
	"witness/disk"
)

func TestNew(t *testing.T) {
	for _, c := range []struct {
		sectors, size int
		e             api.Errno
	}{
		{1, 128, api.OK}, {1, 256, api.OK}, {1, 512, api.OK}, {1, 1024, api.OK}, {1, 2048, api.OK}, {1, 4096, api.OK},
		{2, 128, api.OK}, {65535, 128, api.OK}, {65536, 128, api.OK}, {65536, 256, api.OK},
		{32768, 512, api.OK}, {16384, 1024, api.OK}, {8192, 2048, api.OK}, {4096, 4096, api.OK},
		{0, 128, api.ErrSize}, {-1, 128, api.ErrSize}, {65537, 128, api.ErrSize}, {65537, 256, api.ErrSize},
		{32769, 512, api.ErrSize}, {16385, 1024, api.ErrSize}, {8193, 2048, api.ErrSize}, {4097, 4096, api.ErrSize}, {65536, 512, api.ErrSize},
		{1, 0, api.ErrSize}, {1, 1, api.ErrSize}, {1, 2, api.ErrSize}, {1, 64, api.ErrSize}, {1, 127, api.ErrSize}, {1, 129, api.ErrSize},
		{1, 192, api.ErrSize}, {1, 255, api.ErrSize}, {1, 384, api.ErrSize}, {1, 3072, api.ErrSize}, {1, 4095, api.ErrSize}, {1, 4097, api.ErrSize}, {1, 8192, api.ErrSize},
		{1, -128, api.ErrSize}, {-1, -128, api.ErrSize}, {0, 0, api.ErrSize},
		{math.MaxInt, 128, api.ErrSize}, {math.MinInt, 128, api.ErrSize}, {1, math.MaxInt, api.ErrSize}, {1, math.MinInt, api.ErrSize},
		{1 << 57, 128, api.ErrSize}, {1 << 56, 256, api.ErrSize}, {1<<57 + 1, 128, api.ErrSize}, // sectors times size goes round, or is below 0
	} {
		d, e := disk.New(c.sectors, c.size)
		if e != c.e || (d == nil) != (e != api.OK) {
			t.Fatalf("3.1: New(%d, %d) = %d, want %d", c.sectors, c.size, e, c.e)
		}
		if d == nil {
			continue
		}
		if d.Sectors() != c.sectors || d.Size() != c.size {
			t.Errorf("3.2: New(%d, %d): %d sectors of %d bytes", c.sectors, c.size, d.Sectors(), d.Size())
		}
		tells(t, "3.1: New", d, false, 0, api.Stats{})
		waits(t, "3.1: New", d)
		if !bytes.Equal(d.Image(), make([]byte, c.sectors*c.size)) {
			t.Errorf("3.1: New(%d, %d): bytes that are not 0", c.sectors, c.size)
		}
		last := bytes.Repeat([]byte{7}, c.size)
		answers(t, "3.4: the last sector", d.Write(c.sectors-1, last), api.OK)
		answers(t, "3.4: behind the last sector", d.Write(c.sectors, last), api.ErrSector)
		reads(t, "3.3: the last sector", d, c.sectors-1, last)
	}
}

func TestNewHasNoFuse(t *testing.T) {
	d := fresh(t, 1)
	for range 1000 {
		answers(t, "3.1: no fuse", d.Write(0, fill('a')), api.OK)
		answers(t, "3.1: no fuse", d.Flush(), api.OK)
	}
}

func TestLoad(t *testing.T) {
	for _, c := range []struct {
		length, size int
		e            api.Errno
	}{
		{128, 128, api.OK}, {256, 128, api.OK}, {256, 256, api.OK}, {4096, 4096, api.OK}, {384, 128, api.OK},
		{65536 * 128, 128, api.OK}, {1 << 24, 256, api.OK}, {1 << 24, 4096, api.OK},
		{0, 128, api.ErrSize}, {0, 4096, api.ErrSize}, {1, 128, api.ErrSize}, {127, 128, api.ErrSize}, {129, 128, api.ErrSize},
		{383, 128, api.ErrSize}, {128, 256, api.ErrSize}, {2048, 4096, api.ErrSize}, {4097, 4096, api.ErrSize},
		{65537 * 128, 128, api.ErrSize}, {1 << 24, 128, api.ErrSize}, {1<<24 + 256, 256, api.ErrSize}, {1<<24 + 4096, 4096, api.ErrSize}, {1<<24 + 512, 512, api.ErrSize},
		{0, 0, api.ErrSize}, {128, 0, api.ErrSize}, {128, -128, api.ErrSize}, {64, 64, api.ErrSize}, {192, 192, api.ErrSize}, {8192, 8192, api.ErrSize},
		{128, math.MaxInt, api.ErrSize}, {128, math.MinInt, api.ErrSize}, {127, 127, api.ErrSize}, {128, 1, api.ErrSize},
	} {
		image := make([]byte, c.length)
		for i := range image {
			image[i] = byte(i*7 + i>>7)
		}
		was := bytes.Clone(image)
		d, e := disk.Load(image, c.size)
		if e != c.e || (d == nil) != (e != api.OK) {
			t.Fatalf("3.1: Load of %d bytes by %d = %d, want %d", c.length, c.size, e, c.e)
		}
		if !bytes.Equal(image, was) {
			t.Fatalf("0.4: Load of %d bytes by %d changed them", c.length, c.size)
		}
		if d == nil {
			continue
		}
		clear(image)
		if d.Sectors() != c.length/c.size || d.Size() != c.size {
			t.Errorf("3.2: Load of %d bytes by %d: %d sectors of %d bytes", c.length, c.size, d.Sectors(), d.Size())
		}
		tells(t, "3.1: Load", d, false, 0, api.Stats{})
		waits(t, "3.1: Load", d)
		if !bytes.Equal(d.Image(), was) {
			t.Errorf("3.1: Load of %d bytes by %d has other bytes", c.length, c.size)
		}
		reads(t, "3.1: Load, the first sector", d, 0, was[:c.size])
		reads(t, "3.1: Load, the last sector", d, d.Sectors()-1, was[c.length-c.size:])
		answers(t, "3.1: Load, no fuse", d.Flush(), api.OK)
	}
}

func TestLoadOfNothing(t *testing.T) {
	if d, e := disk.Load(nil, size); d != nil || e != api.ErrSize {
		t.Errorf("3.1: Load(nil) = %d", e)
	}
}

func TestReadAndWrite(t *testing.T) {
	d := fresh(t, 3)
	a, b, z := fill('a'), fill('b'), fill(0)
	reads(t, "3.3", d, 0, z)
	answers(t, "3.4", d.Write(0, a), api.OK)
	reads(t, "3.3", d, 0, a)
	reads(t, "3.3", d, 1, z)
	waits(t, "3.7", d, 0)
	shows(t, "3.7", d, z, z, z)
	answers(t, "3.4", d.Write(0, b), api.OK)
	answers(t, "3.4", d.Write(2, a), api.OK)
	waits(t, "3.7", d, 0, 0, 2)
	reads(t, "3.3", d, 0, b)
	reads(t, "3.3", d, 2, a)
	shows(t, "3.7", d, z, z, z)
	answers(t, "3.4", d.Flush(), api.OK)
	waits(t, "3.4: behind a Flush", d)
	shows(t, "3.4: behind a Flush", d, b, z, a)
	reads(t, "3.4: behind a Flush", d, 0, b)
	answers(t, "3.4: an empty cache", d.Flush(), api.OK)
	shows(t, "3.4: an empty cache", d, b, z, a)
	answers(t, "3.4", d.Write(0, z), api.OK)
	reads(t, "3.3: zeros written over", d, 0, z)
	shows(t, "3.7", d, b, z, a)
	tells(t, "3.9", d, false, 0, api.Stats{Reads: 7, Writes: 4, Flushes: 2})
}

func TestOneSectorManyTimes(t *testing.T) {
	d := fresh(t, 2)
	var sectors []int
	for i := range 50 {
		d.Write(i%2, fill(byte(i)))
		sectors = append(sectors, i%2)
		reads(t, "3.3: the last write to it", d, i%2, fill(byte(i)))
	}
	waits(t, "3.7", d, sectors...)
	d.Flush()
	shows(t, "3.4: the writes in their order", d, fill(48), fill(49))
}

func TestNoSuchSector(t *testing.T) {
	d := fresh(t, 3)
	off := fresh(t, 3)
	off.Fuse(0)
	answers(t, "3.5", off.Flush(), api.ErrPower)
	burnt := fresh(t, 3)
	burnt.Fuse(0)
	a := fill('a')
	for _, d := range []*disk.Disk{d, off, burnt} {
		was, stats := d.Off(), d.Stats()
		for _, sector := range []int{-1, 3, 4, math.MaxInt, math.MinInt} {
			refuses(t, "3.3: no such sector", d, sector, api.ErrSector)
			answers(t, "3.4: no such sector", d.Write(sector, a), api.ErrSector)
			answers(t, "3.4: no such sector, nor as many bytes", d.Write(sector, nil), api.ErrSector)
			answers(t, "3.8: no such sector", d.Rot(sector, 0, 1), api.ErrSector)
		}
		for _, b := range [][]byte{nil, {}, a[:1], a[:127], append(fill('a'), 'a'), make([]byte, 256)} {
			answers(t, "3.4: not Size bytes", d.Write(1, b), api.ErrSector)
		}
		for _, at := range []int{-1, 128, 129, math.MaxInt, math.MinInt} {
			answers(t, "3.8: no such byte", d.Rot(0, at, 1), api.ErrSector)
		}
		tells(t, "3.4: a refusal changes nothing", d, was, 0, stats)
		waits(t, "3.4: a refusal changes nothing", d)
		shows(t, "3.4: a refusal changes nothing", d, fill(0), fill(0), fill(0))
	}
	refuses(t, "3.3: the power is gone", off, 2, api.ErrPower)
	answers(t, "3.4: the power is gone", off.Write(2, a), api.ErrPower)
	answers(t, "3.4: the fuse is 0", burnt.Write(2, a), api.ErrPower)
}

func TestWhatIsHandedInOrOut(t *testing.T) {
	d := fresh(t, 2)
	room := append(fill('a'), fill('x')...)
	d.Write(0, room[:size])
	if !bytes.Equal(room, append(fill('a'), fill('x')...)) {
		t.Errorf("0.4: Write changed what it was given")
	}
	clear(room)
	reads(t, "0.4: b is not kept", d, 0, fill('a'))
	spoil := func(b []byte) {
		b = b[:cap(b)]
		for i := range b {
			b[i] = '!'
		}
	}
	first, _ := d.Read(0)
	second, _ := d.Read(0)
	spoil(first)
	if !bytes.Equal(second, fill('a')) {
		t.Errorf("0.4: two Reads share memory")
	}
	reads(t, "0.4: a Read of the cache", d, 0, fill('a'))
	d.Flush()
	for _, sector := range []int{0, 1} {
		b, _ := d.Read(sector)
		spoil(b)
	}
	spoil(d.Image())
	reads(t, "0.4: a Read of what is durable", d, 0, fill('a'))
	reads(t, "0.4: a Read of what was never written", d, 1, fill(0))
	shows(t, "0.4: an Image", d, fill('a'), fill(0))
	d.Write(1, fill('b'))
	d.Write(0, fill('c'))
	p := d.Pending()
	p[0], p[1] = 7, 8
	waits(t, "0.4: a Pending", d, 1, 0)
	keep := []bool{true, false, true}
	d.Crash(api.Crash{Keep: keep[:2], Torn: 0, At: 1})
	if !slices.Equal(keep, []bool{true, false, true}) {
		t.Errorf("0.4: Crash changed what it was given")
	}
}

func TestStats(t *testing.T) {
	d := fresh(t, 2)
	var want api.Stats
	for i := range 20 {
		d.Read(i % 3)
		d.Write(i%3, fill(1))
		d.Rot(0, 0, 1)
		d.Image()
		d.Pending()
		want.Reads += uint64(1 - i%3/2)
		want.Writes += uint64(1 - i%3/2)
		if i%4 == 0 {
			d.Flush()
			want.Flushes++
		}
		tells(t, "3.9", d, false, 0, want)
	}
	d.Crash(none)
	tells(t, "3.6: Stats stay", d, false, 1, want)
	d.Fuse(0)
	d.Flush()
	d.Read(0)
	d.Write(0, fill(1))
	tells(t, "3.9: only what was answered OK", d, true, 1, want)
	d.Crash(none)
	tells(t, "3.9: Era", d, false, 2, want)
}

func TestLoadOfAnImage(t *testing.T) {
	d := fresh(t, 1)
	d.Write(0, fill('a'))
	d.Flush()
	d.Crash(none)
	d.Fuse(0)
	l, e := disk.Load(d.Image(), size)
	answers(t, "3.1", e, api.OK)
	tells(t, "3.1: Load", l, false, 0, api.Stats{})
	reads(t, "3.1: Load", l, 0, fill('a'))
	answers(t, "3.1: Load, no fuse", l.Flush(), api.OK)
}

// TestCopyHasTheSame: a copy with something in the cache, a fuse, Stats and crashes behind it.
func TestCopyHasTheSame(t *testing.T) {
	d := fresh(t, 3)
	d.Write(1, fill('x'))
	d.Flush()
	d.Crash(none)
	d.Fuse(3)
	d.Write(0, fill('a'))
	d.Write(0, fill('b'))
	d.Read(0)
	c := d.Copy()
	if c == d || c.Sectors() != 3 || c.Size() != size {
		t.Fatalf("3.9: Copy: %d sectors of %d bytes", c.Sectors(), c.Size())
	}
	tells(t, "3.9: Copy", c, false, 1, api.Stats{Reads: 1, Writes: 3, Flushes: 1})
	waits(t, "3.9: Copy", c, 0, 0)
	shows(t, "3.9: Copy", c, fill(0), fill('x'), fill(0))
	reads(t, "3.9: Copy", c, 0, fill('b'))
	answers(t, "3.9: Copy, its fuse", c.Write(2, fill('c')), api.OK)
	answers(t, "3.9: Copy, its fuse", c.Write(2, fill('c')), api.ErrPower)
	gone := c.Copy()
	tells(t, "3.9: Copy, its power", gone, true, 1, api.Stats{Reads: 2, Writes: 4, Flushes: 1})
	refuses(t, "3.9: Copy, its power", gone, 0, api.ErrPower)
	gone.Crash(api.Crash{Keep: []bool{true, false, true}, Torn: -1})
	shows(t, "3.9: Copy, its cache", gone, fill('a'), fill('x'), fill('c'))
	tells(t, "3.9: of a copy nothing is known", c, true, 1, api.Stats{Reads: 2, Writes: 4, Flushes: 1})
	waits(t, "3.9: of a copy nothing is known", c, 0, 0, 2)
	tells(t, "3.9: of a copy nothing is known", d, false, 1, api.Stats{Reads: 1, Writes: 3, Flushes: 1})
	waits(t, "3.9: of a copy nothing is known", d, 0, 0)
	answers(t, "3.9: of a copy nothing is known", d.Write(1, fill('d')), api.OK)
}

// TestCopyKnowsNothing: whatever is done to one of the two, the other stays.
func TestCopyKnowsNothing(t *testing.T) {
	deeds := map[string]func(d *disk.Disk){
		"Write":        func(d *disk.Disk) { d.Write(0, fill('w')) },
		"Write, new":   func(d *disk.Disk) { d.Write(2, fill('w')) },
		"Flush":        func(d *disk.Disk) { d.Flush() },
		"Crash":        func(d *disk.Disk) { d.Crash(none) },
		"Crash, torn":  func(d *disk.Disk) { d.Crash(api.Crash{Keep: []bool{true, true}, Torn: 1, At: 5}) },
		"Rot":          func(d *disk.Disk) { d.Rot(0, 3, 255) },
		"Rot, durable": func(d *disk.Disk) { d.Rot(1, 3, 255) },
		"Fuse, Flush":  func(d *disk.Disk) { d.Fuse(0); d.Flush() },
		"Flush, Rot":   func(d *disk.Disk) { d.Flush(); d.Rot(0, 3, 255) },
		"Flush, tear":  func(d *disk.Disk) { d.Flush(); d.Write(0, fill('w')); d.Crash(api.Crash{Torn: 0, At: 9}) },
		"Writes, Crash": func(d *disk.Disk) {
			d.Write(1, fill('w'))
			d.Crash(api.Crash{Keep: []bool{true, true, true}, Torn: -1})
		},
		"Reads":            func(d *disk.Disk) { d.Read(0); d.Read(1) },
		"many Writes":      func(d *disk.Disk) { d.Write(0, fill('v')); d.Write(0, fill('w')); d.Write(0, fill('x')) },
		"Copy of the copy": func(d *disk.Disk) { d.Copy().Rot(0, 3, 255) },
	}
	for name, deed := range deeds {
		for _, way := range []string{"done to the disk", "done to the copy"} {
			d, m := fresh(t, 3), newModel(3)
			for i, sector := range []int{1, 0, 0} {
				d.Write(sector, fill(byte('a'+i)))
				m.write(sector, fill(byte('a'+i)))
				if i == 0 {
					d.Flush()
					m.flush()
				}
			}
			c := d.Copy()
			one, other := d, c
			if way == "done to the copy" {
				one, other = c, d
			}
			deed(one)
			pair{other, m}.holds(t, name+", "+way+": 3.9")
		}
	}
}

// TestAgainstTheModel: long rows of calls, and all that can be asked behind each; at times one goes on with a copy, and the disk stays as it was.
func TestAgainstTheModel(t *testing.T) {
	for seed := range 60 {
		n := &noise{uint64(seed)}
		sectors := 1 + n.below(5)
		p := pair{fresh(t, sectors), newModel(sectors)}
		var left []pair
		for i := range 80 {
			done := p.step(t, n)
			p.holds(t, done)
			if t.Failed() {
				t.Fatalf("seed %d, step %d: %s", seed, i, done)
			}
			if n.below(10) == 0 {
				left = append(left, p)
				p = pair{p.d.Copy(), p.m.copied()}
			}
		}
		for _, old := range left {
			old.holds(t, "3.9: what a copy was made of")
		}
	}
}
