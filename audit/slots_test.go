package audit_test

import (
	"fmt"
	"slices"
	"testing"

	"witness/api"
	"witness/audit"
	"witness/catalog"
	"witness/disk"
)

// slotFaults make a slot one that is not whole.
var slotFaults = []struct {
	name string
	do   func(s api.Super, size int) []byte
}{
	{"another Size", func(s api.Super, size int) []byte { s.Size *= 2; return superBytes(s, size) }},
	{"the Size 0", func(s api.Super, size int) []byte { s.Size = 0; return superBytes(s, size) }},
	{"a sector more", func(s api.Super, size int) []byte { s.Sectors++; return superBytes(s, size) }},
	{"a sector less", func(s api.Super, size int) []byte { s.Sectors--; return superBytes(s, size) }},
	{"the next Seq", func(s api.Super, size int) []byte { s.Seq++; return superBytes(s, size) }},
	{"a Seq above the last", func(s api.Super, size int) []byte { s.Seq += last + 2; return superBytes(s, size) }},
	{"zeros", func(_ api.Super, size int) []byte { return make([]byte, size) }},
	{"a letter", func(s api.Super, size int) []byte { b := superBytes(s, size); b[7] = '2'; return b }},
	{"a check sum", func(s api.Super, size int) []byte { b := superBytes(s, size); b[43] ^= 1; return b }},
	{"a torn one", func(s api.Super, size int) []byte { b := superBytes(s, size); b[51] ^= 2; return b }},
	{"a byte behind it", func(s api.Super, size int) []byte { b := superBytes(s, size); b[size-1] = 1; return b }},
}

// TestSlots: each fault in each slot and in both.
func TestSlots(t *testing.T) {
	d := two(t)
	whole := modelSlots(d)
	if len(whole) != 2 {
		t.Fatal("there are no two slots")
	}
	for _, f := range slotFaults {
		none := d.Copy()
		for _, s := range whole {
			slot := int(s.Seq % 2)
			x := d.Copy()
			x.Write(slot, f.do(s, sector))
			none.Write(slot, f.do(s, sector))
			r := alike(t, f.name, x)
			want := [6]int{1, 2, 15, 12, 11, 3}
			if slot == 1 {
				want = [6]int{1, 1, 9, 7, 7, 1} // what the commit ahead has left
			}
			holds(t, fmt.Sprintf("17.2: %s in slot %d", f.name, slot), r, want)
		}
		holds(t, "17.2: "+f.name+" in both", alike(t, f.name, none), [6]int{}, of(api.ErrMagic, 0))
	}
}

// TestSlotThatHolds: of two that are whole the one with the greater Seq, whatever its page is; the other one's page is not looked at.
func TestSlotThatHolds(t *testing.T) {
	d := two(t)
	good := open(t, d).Super()
	bad := good
	bad.Page.At++
	lay := func(a, b api.Super) *disk.Disk {
		x := d.Copy()
		x.Write(int(a.Seq%2), superBytes(a, sector))
		x.Write(int(b.Seq%2), superBytes(b, sector))
		return x
	}
	for _, seq := range []uint64{1, 2, 7, 8, last - 1} {
		bad.Seq, good.Seq = seq, seq+1
		holds(t, "17.2: the greater Seq is right", alike(t, "17.2", lay(bad, good)), [6]int{2, 2, 15, 12, 11, 3})
		bad.Seq, good.Seq = seq+1, seq
		holds(t, "17.3: the greater Seq is wrong", alike(t, "17.3", lay(bad, good)), [6]int{0: 2}, of(api.ErrPage, 0))
	}
	bad.Seq, good.Seq = 3, last
	holds(t, "17.2: Seqs far from each other", alike(t, "17.2", lay(bad, good)), [6]int{2, 2, 15, 12, 11, 3})
	good.Seq = 0
	x := d.Copy()
	x.Write(0, superBytes(good, sector))
	x.Write(1, make([]byte, sector))
	holds(t, "17.2: the Seq 0", alike(t, "17.2", x), [6]int{1, 2, 15, 12, 11, 3})
}

// TestSmallDisks: as few sectors as can be; the least store.
func TestSmallDisks(t *testing.T) {
	for _, size := range []int{128, 256, 4096} {
		for sectors := 1; sectors <= 8; sectors++ {
			d := newDisk(t, sectors, size)
			holds(t, "17.2: zeros", alike(t, "zeros", d), [6]int{}, of(api.ErrMagic, 0))
			s := api.Super{Seq: 2, Size: size, Sectors: sectors, Span: 2, Page: api.Place{At: 16, Len: 13}}
			d.Write(0, superBytes(s, size))
			holds(t, "17.3: a superblock alone", alike(t, "a superblock", d), [6]int{0: 1}, of(api.ErrPage, 0))
			s.Seq = 1
			d.Write(1, superBytes(s, size))
			want := [6]int{0: min(2, sectors)}
			holds(t, "17.3: two superblocks alone", alike(t, "two superblocks", d), want, of(api.ErrPage, 0))
			if catalog.Format(d, 2, 1) == api.OK {
				holds(t, "17.4: a small store", alike(t, "a small store", d), [6]int{1, 1, 3, 2, 2, 0})
			} else if sectors >= 6 {
				t.Errorf("14.1: no Format of %d sectors", sectors)
			}
		}
	}
}

// TestAnyBytes: disks of noise, and stores with much noise in them.
func TestAnyBytes(t *testing.T) {
	codes := map[api.Errno]int{}
	for seed := range uint64(400) {
		r := noise(seed)
		image := make([]byte, (1+r.IntN(40))*sector)
		for i := range image {
			image[i] = byte(r.Uint32())
		}
		d, e := disk.Load(image, sector)
		must(t, "3.1: Load", e)
		alike(t, fmt.Sprint("noise ", seed), d)

		d = stocked(t, 12, 1+r.IntN(4), r.IntN(8))
		for range 1 + r.IntN(4) {
			first, n := 2+r.IntN(d.Sectors()-2), 1+r.IntN(3)
			switch r.IntN(4) {
			case 0: // noise in some sectors
				for s := first; s < min(first+n, d.Sectors()); s++ {
					poke(d, s, 0, image[:min(len(image), sector)])
				}
			case 1: // one sector in the place of another
				b, _ := d.Read(2 + r.IntN(d.Sectors()-2))
				d.Write(first, b)
			case 2:
				d.Rot(r.IntN(d.Sectors()), r.IntN(sector), 1<<r.IntN(8))
			case 3:
				d.Rot(first, r.IntN(sector), byte(1+r.IntN(255)))
			}
		}
		x := alike(t, fmt.Sprint("a store with noise ", seed), d)
		for _, f := range x.Findings {
			codes[f.Code]++
		}
		if audit.Clean(x) {
			codes[api.OK]++
		}
	}
	for _, code := range []api.Errno{api.OK, api.ErrPage, api.ErrCheck, api.ErrTree, api.ErrLeaf} {
		if codes[code] < 5 {
			t.Errorf("17: %v", codes)
		}
	}
}

// TestOrder: findings of all sorts, in their order, though segments are read in the order of their serials.
func TestOrder(t *testing.T) {
	s := sceneOf(t, 9, map[string]string{"7:c": "missing", "8:head": "another label", "8:g=": "kind 4", "8+1": "another version"})
	s.page.Versions[0].Tree.Label[0] ^= 1
	for seg, serial := range map[int]uint64{11: 60, 10: 50, 9: 90, 8: 70} {
		s.beginWith(seg, serial)
		s.frame(1, nil)
		s.frame(3, nil)
		s.frame(1, []byte("a blob"))
		s.frame(2, nil)
		s.frame(6, []byte("no kind"))
		s.frame(1, nil)
	}
	s.beginWith(7, 100)
	d := s.lay()
	turn(d, sceneSpan, 10, 0, 8)
	turn(d, sceneSpan, 8, 16+13+2, 8)
	r := alike(t, "17.8", d)
	var want []api.Finding
	want = append(want, of(api.ErrTree, 6), of(api.ErrLabel, 6), of(api.ErrTree, 7), of(api.ErrTree, 8), of(api.ErrLeaf, 8))
	want = append(want, at(api.ErrForm, 8, 16), at(api.ErrCheck, 8, 29))
	for seg := 9; seg <= 11; seg++ {
		l := []api.Finding{at(api.ErrForm, seg, 16), at(api.ErrForm, seg, 29), at(api.ErrForm, seg, 42+19), at(api.ErrKind, seg, 42+19+13)}
		if seg == 10 {
			l = slices.Insert(l[:3:3], 0, at(api.ErrForm, 10, 0))
		}
		want = append(want, l...)
	}
	finds(t, "17.8", r, want...)
	for range 30 {
		for workers := 1; workers <= api.MaxWorkers; workers++ {
			if x := run(t, d, workers); !sameReport(x, r) {
				t.Fatalf("17.9: %d workers: %v, want %v", workers, x, r)
			}
		}
	}
}
