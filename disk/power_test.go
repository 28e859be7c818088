package disk_test

import (
	"math"
	"testing"

	"witness/api"
	"witness/disk"
)

func TestFuse(t *testing.T) {
	d := fresh(t, 3)
	a, b, z := fill('a'), fill('b'), fill(0)
	d.Fuse(2)
	answers(t, "3.5: ErrSector takes nothing from the fuse", d.Write(3, a), api.ErrSector)
	answers(t, "3.5", d.Write(0, a), api.OK)
	answers(t, "3.5", d.Flush(), api.OK)
	tells(t, "3.5: the fuse is 0, and the power is on", d, false, 0, api.Stats{Writes: 1, Flushes: 1})
	reads(t, "3.5: a Read needs no fuse", d, 0, a)
	answers(t, "3.5: ErrSector comes first, and the power stays", d.Write(1, a[:127]), api.ErrSector)
	if d.Off() {
		t.Errorf("3.5: a Write that is refused with ErrSector took the power")
	}
	answers(t, "3.5", d.Write(1, b), api.ErrPower)
	tells(t, "3.5", d, true, 0, api.Stats{Reads: 1, Writes: 1, Flushes: 1})
	refuses(t, "3.5", d, 0, api.ErrPower)
	refuses(t, "3.5", d, 9, api.ErrSector)
	answers(t, "3.5", d.Flush(), api.ErrPower)
	d.Fuse(5)
	answers(t, "3.5: no Fuse while the power is gone", d.Write(1, b), api.ErrPower)
	d.Fuse(-1)
	answers(t, "3.5: no Fuse while the power is gone", d.Flush(), api.ErrPower)
	waits(t, "3.5", d)
	shows(t, "3.5", d, a, z, z)
	d.Crash(api.Crash{})
	tells(t, "3.6", d, false, 1, api.Stats{Reads: 1, Writes: 1, Flushes: 1})
	reads(t, "3.6", d, 0, a)
	reads(t, "3.6", d, 1, z)
	answers(t, "3.6: no fuse", d.Write(1, b), api.OK)
	tells(t, "3.9", d, false, 1, api.Stats{Reads: 3, Writes: 2, Flushes: 1})
}

func TestFuseOfEachLength(t *testing.T) {
	for n := range 12 {
		for _, flushes := range []int{1, 2, 3, 100} { // every so many calls one is a Flush
			d := fresh(t, 1)
			d.Fuse(n)
			for i := range n + 3 {
				want := api.OK
				if i >= n {
					want = api.ErrPower
				}
				if i%flushes == flushes-1 {
					answers(t, "3.5: Flush", d.Flush(), want)
				} else {
					answers(t, "3.5: Write", d.Write(0, fill(byte(i))), want)
				}
				if d.Off() != (i >= n) {
					t.Errorf("3.5: Fuse(%d): Off = %v behind call %d", n, d.Off(), i)
				}
			}
		}
	}
}

func TestFuseAnew(t *testing.T) {
	a := fill('a')
	d := fresh(t, 1)
	d.Fuse(0)
	reads(t, "3.5: a fuse of 0", d, 0, fill(0))
	answers(t, "3.5: a fuse of 0", d.Flush(), api.ErrPower)
	if !d.Off() {
		t.Errorf("3.5: a fuse of 0: the power is on")
	}
	for _, away := range []int{-1, -2, math.MinInt} {
		d = fresh(t, 1)
		d.Fuse(0)
		d.Fuse(away)
		for range 5 {
			answers(t, "3.5: a fuse that is taken away", d.Write(0, a), api.OK)
			answers(t, "3.5: a fuse that is taken away", d.Flush(), api.OK)
		}
	}
	d = fresh(t, 1)
	d.Fuse(3)
	d.Write(0, a)
	d.Fuse(1)
	answers(t, "3.5: the fuse is n, whatever it was", d.Write(0, a), api.OK)
	answers(t, "3.5: the fuse is n, whatever it was", d.Write(0, a), api.ErrPower)
	d = fresh(t, 1)
	d.Fuse(1)
	d.Fuse(math.MaxInt)
	answers(t, "3.5: a long fuse", d.Write(0, a), api.OK)
	answers(t, "3.5: a long fuse", d.Write(0, a), api.OK)
	d.Fuse(1)
	d.Crash(none)
	answers(t, "3.6: there is no fuse", d.Write(0, a), api.OK)
	answers(t, "3.6: there is no fuse", d.Write(0, a), api.OK)
	if d.Off() {
		t.Errorf("3.6: the power is gone")
	}
}

// TestPowerGone: what is refused changes nothing, and the rest answers as ever.
func TestPowerGone(t *testing.T) {
	d := fresh(t, 2)
	d.Write(1, fill('d'))
	d.Flush()
	d.Write(0, fill('a'))
	d.Fuse(0)
	answers(t, "3.4: the fuse is 0", d.Write(0, fill('b')), api.ErrPower)
	for range 2 {
		answers(t, "3.4: the power is gone", d.Write(1, fill('b')), api.ErrPower)
		answers(t, "3.4: the power is gone", d.Flush(), api.ErrPower)
		refuses(t, "3.3: the power is gone", d, 0, api.ErrPower)
		refuses(t, "3.3: the power is gone", d, 1, api.ErrPower)
	}
	if d.Sectors() != 2 || d.Size() != size {
		t.Errorf("3.5: %d sectors of %d bytes", d.Sectors(), d.Size())
	}
	waits(t, "3.5: nothing is written", d, 0)
	shows(t, "3.5: nothing is applied", d, fill(0), fill('d'))
	tells(t, "3.5", d, true, 0, api.Stats{Writes: 2, Flushes: 1})
	answers(t, "3.8: it needs no power", d.Rot(0, 0, 1), api.OK)
	c := d.Copy()
	tells(t, "3.5: Copy", c, true, 0, api.Stats{Writes: 2, Flushes: 1})
	d.Crash(api.Crash{Keep: []bool{true}, Torn: -1})
	reads(t, "3.6: what was in the cache when the power went", d, 0, torn('a'^1, 'a', 1))
	tells(t, "3.6", d, false, 1, api.Stats{Reads: 1, Writes: 2, Flushes: 1})
}

func TestCrash(t *testing.T) {
	yes, no := true, false
	for _, c := range []struct {
		name  string
		crash api.Crash
		want  []byte
	}{
		{"both kept", api.Crash{Keep: []bool{yes, yes}, Torn: -1}, fill('b')},
		{"the first kept", api.Crash{Keep: []bool{yes, no}, Torn: -1}, fill('a')},
		{"the second kept", api.Crash{Keep: []bool{no, yes}, Torn: -1}, fill('b')},
		{"none kept", api.Crash{Keep: []bool{no, no}, Torn: -1}, fill('z')},
		{"no Keep", api.Crash{Torn: -1}, fill('z')},
		{"a Keep that is shorter", api.Crash{Keep: []bool{yes}, Torn: -1}, fill('a')},
		{"a Keep that is shorter, and keeps nothing", api.Crash{Keep: []bool{no}, Torn: -1}, fill('z')},
		{"a Keep that is longer", api.Crash{Keep: []bool{no, no, yes, yes, yes}, Torn: -1}, fill('z')},
		{"a Keep that is longer, of all", api.Crash{Keep: []bool{yes, yes, yes, yes}, Torn: -1}, fill('b')},
		{"the zero Crash tears the first at 0", api.Crash{}, fill('z')},
		{"torn, the first kept", api.Crash{Keep: []bool{yes}, Torn: 1, At: 3}, torn('b', 'a', 3)},
		{"torn, nothing kept", api.Crash{Torn: 1, At: 3}, torn('b', 'z', 3)},
		{"torn, whatever Keep says", api.Crash{Keep: []bool{yes, yes}, Torn: 1, At: 3}, torn('b', 'a', 3)},
		{"torn, whatever Keep says not", api.Crash{Keep: []bool{yes, no}, Torn: 1, At: 3}, torn('b', 'a', 3)},
		{"the first torn", api.Crash{Keep: []bool{yes, no}, Torn: 0, At: 127}, torn('a', 'z', 127)},
		{"the first torn, the second kept", api.Crash{Keep: []bool{no, yes}, Torn: 0, At: 5}, fill('b')},
		{"At 0", api.Crash{Keep: []bool{yes, yes}, Torn: 1, At: 0}, fill('a')},
		{"At 1", api.Crash{Keep: []bool{yes, yes}, Torn: 1, At: 1}, torn('b', 'a', 1)},
		{"At Size", api.Crash{Keep: []bool{no, no}, Torn: 0, At: 128}, fill('a')},
		{"At above Size", api.Crash{Keep: []bool{no, no}, Torn: 0, At: 129}, fill('a')},
		{"At far above Size", api.Crash{Keep: []bool{no, yes}, Torn: 0, At: 200}, fill('b')},
		{"At the last number", api.Crash{Torn: 1, At: math.MaxInt}, fill('b')},
		{"At -1", api.Crash{Keep: []bool{yes, yes}, Torn: 0, At: -1}, fill('b')},
		{"At below 0", api.Crash{Keep: []bool{yes, yes}, Torn: 1, At: -5}, fill('a')},
		{"At the least number", api.Crash{Keep: []bool{yes}, Torn: 0, At: math.MinInt}, fill('z')},
		{"Torn behind the cache", api.Crash{Keep: []bool{yes, yes, yes}, Torn: 2, At: 1}, fill('b')},
		{"Torn far behind the cache", api.Crash{Keep: []bool{yes}, Torn: math.MaxInt, At: 1}, fill('a')},
		{"Torn below -1", api.Crash{Keep: []bool{yes, yes}, Torn: -2, At: 1}, fill('b')},
		{"Torn the least number", api.Crash{Keep: []bool{no}, Torn: math.MinInt, At: 1}, fill('z')},
	} {
		for _, gone := range []bool{false, true} {
			d, _ := disk.Load(append(fill('y'), fill('z')...), size)
			d.Write(1, fill('a'))
			d.Write(1, fill('b'))
			d.Fuse(0)
			if gone {
				d.Flush()
			}
			d.Crash(c.crash)
			waits(t, "3.6: "+c.name, d)
			shows(t, "3.6: "+c.name, d, fill('y'), c.want)
			reads(t, "3.6: "+c.name, d, 1, c.want)
			tells(t, "3.6: "+c.name, d, false, 1, api.Stats{Reads: 1, Writes: 2})
			answers(t, "3.6: there is no fuse: "+c.name, d.Flush(), api.OK)
		}
	}
}

// TestCrashOfSeveralSectors: the numbers go through the whole cache, not through one sector's writes.
func TestCrashOfSeveralSectors(t *testing.T) {
	d := fresh(t, 3)
	d.Write(0, fill('a'))
	d.Write(0, fill('b'))
	d.Write(2, fill('a'))
	d.Crash(api.Crash{Keep: []bool{true, false, true}, Torn: -1})
	reads(t, "3.6", d, 0, fill('a'))
	reads(t, "3.6", d, 2, fill('a'))
	waits(t, "3.6", d)
	for i, sector := range []int{2, 0, 1, 0, 2} {
		d.Write(sector, fill(byte('p'+i)))
	}
	d.Crash(api.Crash{Keep: []bool{true, true, false, true, false}, Torn: 3, At: 10})
	shows(t, "3.6", d, torn('s', 'q', 10), fill(0), fill('p'))
	d.Write(1, fill('w'))
	waits(t, "3.6: the numbers begin anew", d, 1)
	d.Crash(api.Crash{Keep: []bool{true}, Torn: -1})
	shows(t, "3.6: the numbers begin anew", d, torn('s', 'q', 10), fill('w'), fill('p'))
	d.Write(1, fill('v'))
	d.Flush()
	d.Write(0, fill('u'))
	d.Crash(api.Crash{Keep: []bool{true}, Torn: -1})
	shows(t, "3.4: the numbers begin anew behind a Flush", d, fill('u'), fill('v'), fill('p'))
}

func TestCrashWithAnEmptyCache(t *testing.T) {
	d := fresh(t, 2)
	d.Write(1, fill('a'))
	d.Flush()
	for i, c := range []api.Crash{{}, none, {Keep: []bool{true, true}, Torn: 0, At: 64}, {Torn: 1, At: 128}} {
		d.Crash(c)
		shows(t, "3.6: an empty cache", d, fill(0), fill('a'))
		tells(t, "3.6: an empty cache", d, false, i+1, api.Stats{Writes: 1, Flushes: 1})
	}
}

func TestTornOverNothing(t *testing.T) {
	d := fresh(t, 2)
	d.Write(1, fill('a'))
	d.Crash(api.Crash{Torn: 0, At: 7})
	shows(t, "3.6: torn over a sector that was never written", d, fill(0), torn('a', 0, 7))
	d.Write(1, fill('b'))
	d.Crash(api.Crash{Torn: 0, At: 3})
	want := torn('b', 0, 7)
	copy(want[3:7], "aaaa")
	shows(t, "3.6: torn twice", d, fill(0), want)
}

func TestRot(t *testing.T) {
	d := fresh(t, 3)
	d.Write(0, fill('a'))
	d.Write(1, fill('m'))
	d.Write(0, fill('b'))
	d.Fuse(0)
	answers(t, "3.8", d.Rot(0, 5, 1), api.OK)
	turned := func(c, at5 byte) []byte {
		b := fill(c)
		b[5] = at5
		return b
	}
	reads(t, "3.8: the last write", d, 0, turned('b', 'c'))
	reads(t, "3.8: another sector", d, 1, fill('m'))
	shows(t, "3.8: durable", d, turned(0, 1), fill(0), fill(0))
	waits(t, "3.8: it is no write", d, 0, 1, 0)
	tells(t, "3.8: it is no write, and the power stays", d, false, 0, api.Stats{Reads: 2, Writes: 3})
	for _, c := range []struct {
		crash api.Crash
		want  []byte
	}{
		{none, turned(0, 1)},
		{api.Crash{Keep: []bool{true}, Torn: -1}, turned('a', 'a'^1)},
		{api.Crash{Keep: []bool{true, true, true}, Torn: -1}, turned('b', 'b'^1)},
	} {
		c1 := d.Copy()
		c1.Crash(c.crash)
		reads(t, "3.8: in each write of the cache", c1, 0, c.want)
	}
	answers(t, "3.8", d.Rot(0, 5, 1), api.OK)
	shows(t, "3.8: turned back", d, fill(0), fill(0), fill(0))
	reads(t, "3.8: turned back", d, 0, fill('b'))
}

func TestRotOfEachByte(t *testing.T) {
	d := fresh(t, 2)
	want := fill(0)
	for at := range size {
		answers(t, "3.8", d.Rot(1, at, byte(at*3+1)), api.OK)
		want[at] = byte(at*3 + 1)
		shows(t, "3.8", d, fill(0), want)
	}
	answers(t, "3.8: a mask of 0", d.Rot(0, 0, 0), api.OK)
	answers(t, "3.8: a mask of 255", d.Rot(1, 127, 255), api.OK)
	want[127] = ^want[127]
	shows(t, "3.8", d, fill(0), want)
	reads(t, "3.8", d, 1, want)
	d.Fuse(1)
	for range 3 {
		d.Rot(0, 0, 1)
	}
	answers(t, "3.8: it takes nothing from the fuse", d.Flush(), api.OK)
	answers(t, "3.8: it gives nothing to the fuse", d.Flush(), api.ErrPower)
}
