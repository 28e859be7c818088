package audit_test

import (
	"fmt"
	"runtime"
	"slices"
	"testing"
	"time"

	"witness/api"
	"witness/audit"
	"witness/disk"
)

// refused holds that there is an error and nothing else.
func refused(t *testing.T, what string, d *disk.Disk, workers int, want api.Errno) {
	t.Helper()
	if r, e := audit.Run(d, workers); e != want || !sameReport(r, api.Report{}) {
		t.Errorf("%s: %d workers: %v, %d, want %d", what, workers, r, e, want)
	}
}

// TestNumberOfWorkers: from 1 to MaxWorkers, of any disk.
func TestNumberOfWorkers(t *testing.T) {
	zeros := newDisk(t, 1, sector)
	off := two(t)
	off.Fuse(0)
	off.Flush()
	for _, d := range []*disk.Disk{two(t), zeros, off, nil} {
		for _, n := range []int{0, -1, 17, 18, 1 << 40, -1 << 63, 1<<63 - 1} {
			refused(t, "17.1", d, n, api.ErrWorkers)
		}
	}
	d := two(t)
	want := model(d)
	for n := 1; n <= api.MaxWorkers; n++ {
		if r := run(t, d, n); !sameReport(r, want) {
			t.Errorf("17.9: %d workers: %v, want %v", n, r, want)
		}
		refused(t, "17.1: the power is gone", off, n, api.ErrPower)
	}
}

// TestNoPower: whatever there is to read, nothing is told without power.
func TestNoPower(t *testing.T) {
	page := two(t)
	page.Rot(13, 90, 1)
	for i, d := range []*disk.Disk{newDisk(t, 1, sector), newDisk(t, 2, sector), newDisk(t, 66, 4096), two(t), page, stocked(t, 20, 5, 9)} {
		d.Fuse(0)
		run(t, d, 2)
		d.Flush()
		refused(t, fmt.Sprint("17.1: disk ", i), d, 1, api.ErrPower)
		refused(t, fmt.Sprint("17.1: disk ", i), d, api.MaxWorkers, api.ErrPower)
		d.Crash(api.Crash{Torn: -1})
		alike(t, "17.1: the power is back", d)
	}
}

// TestNoDisk: what is no disk has no slot that is whole.
func TestNoDisk(t *testing.T) {
	for _, d := range []*disk.Disk{nil, {}} {
		r := run(t, d, 3)
		holds(t, "17.2: no disk", r, [6]int{}, of(api.ErrMagic, 0))
	}
}

// TestWhileThePowerGoes: what cannot be read because the power is gone is not taken for damage.
func TestWhileThePowerGoes(t *testing.T) {
	d := stocked(t, 40, 5, 20)
	want := model(d)
	met := map[api.Errno]int{}
	for i := range 800 {
		if i >= 400 { // while the slots and the page are read
			i %= 9
		}
		x := d.Copy()
		x.Fuse(0)
		begun := make(chan bool)
		go func() {
			close(begun)
			for x.Stats().Reads-d.Stats().Reads < uint64(i) && !x.Off() {
				runtime.Gosched()
			}
			x.Flush()
		}()
		<-begun
		r, e := audit.Run(x, 1+i%16)
		met[e]++
		if e != api.ErrPower && (e != api.OK || !sameReport(r, want)) || e == api.ErrPower && !sameReport(r, api.Report{}) {
			t.Fatalf("17.1: %v, %d, want all or %d", r, e, api.ErrPower)
		}
		x.Flush()
	}
	if met[api.ErrPower] < 10 {
		t.Errorf("17.1: %v", met)
	}
}

// TestNothingIsWritten: an audit reads alone, what is in the cache too, and takes nothing from the fuse.
func TestNothingIsWritten(t *testing.T) {
	damaged := two(t)
	damaged.Rot(2, 30, 1)
	cached := two(t)
	b := open(t, cached).Blobs()
	b.Begin()
	b.Put(api.KindValue, []byte("not committed"))
	b.Put(api.KindValue, make([]byte, 900))
	if len(cached.Pending()) == 0 {
		t.Fatal("nothing is in the cache")
	}
	for i, d := range []*disk.Disk{newDisk(t, 66, sector), two(t), damaged, cached} {
		for _, fuse := range []int{-1, 0, 1, 3} {
			x := d.Copy()
			x.Fuse(fuse)
			before := whatDiskHas(x)
			for _, workers := range []int{0, 1, 16} {
				audit.Run(x, workers)
			}
			if now := whatDiskHas(x); now != before {
				t.Errorf("17.1: disk %d: %s, want %s", i, now, before)
			}
			for range fuse {
				must(t, "17.1: the fuse has burnt", x.Write(65, make([]byte, sector)))
			}
			if e := x.Write(65, make([]byte, sector)); (e == api.ErrPower) != (fuse >= 0) {
				t.Errorf("17.1: the fuse %d: %d", fuse, e)
			}
		}
		if !sameReport(run(t, d, 2), run(t, d.Copy(), 5)) {
			t.Errorf("17.1: disk %d: another report", i)
		}
	}
	if r := alike(t, "17.11: with a change begun", cached); !sameReport(r, run(t, two(t), 1)) {
		t.Errorf("17.4: what is not committed counts: %v", r)
	}
}

// TestReads: where nothing else is looked at, nothing else is read.
func TestReads(t *testing.T) {
	none := stocked(t, 20, 3, 12)
	none.Rot(0, 0, 1)
	none.Rot(1, 0, 1)
	page := stocked(t, 20, 3, 12)
	s := open(t, page).Super()
	turn(page, 8, s.Page.Seg, s.Page.At, 1)
	for what, d := range map[string]*disk.Disk{"no slot": none, "no page": page} {
		before := d.Stats().Reads
		run(t, d, 4)
		if n := d.Stats().Reads - before; n > 2+8+1 {
			t.Errorf("17.2, 17.3: %s: %d sectors are read", what, n)
		}
	}
}

// TestGoroutinesEnd: none is left behind, whatever was found.
func TestGoroutinesEnd(t *testing.T) {
	damaged := stocked(t, 20, 3, 9)
	damaged.Rot(2, 30, 1)
	off := two(t)
	off.Fuse(0)
	off.Flush()
	before := runtime.NumGoroutine()
	for _, d := range []*disk.Disk{newDisk(t, 66, sector), two(t), damaged, off} {
		for n := range api.MaxWorkers + 2 {
			audit.Run(d, n)
		}
	}
	for range 1000 { // one that has said that it is through may need a moment to be gone
		if runtime.NumGoroutine() <= before {
			return
		}
		time.Sleep(time.Millisecond)
	}
	t.Errorf("0.5: %d goroutines, %d before", runtime.NumGoroutine(), before)
}

// TestManyAudits: several audits of one disk at one time know nothing of one another.
func TestManyAudits(t *testing.T) {
	d := stocked(t, 20, 4, 9)
	d.Rot(2, 200, 1)
	want := model(d)
	told := make(chan api.Report)
	for i := range 16 {
		go func() {
			r, _ := audit.Run(d, 1+i)
			told <- r
		}()
	}
	for range 16 {
		if r := <-told; !sameReport(r, want) {
			t.Errorf("17.9: %v, want %v", r, want)
		}
	}
}

// TestMemory: what is handed out is new.
func TestMemory(t *testing.T) {
	d := two(t)
	d.Rot(2, 30, 1)
	one := run(t, d, 2)
	kept := slices.Clone(one.Findings)
	two := run(t, d, 2)
	for i := range one.Findings[:cap(one.Findings)] {
		one.Findings[:cap(one.Findings)][i] = api.Finding{Code: 7}
	}
	if !slices.Equal(two.Findings, kept) || !slices.Equal(run(t, d, 2).Findings, kept) {
		t.Error("0.4: two reports share a list")
	}
}

// TestClean: no finding, and one slot or two.
func TestClean(t *testing.T) {
	some := []api.Finding{{}}
	for _, slots := range []int{0, 1, 2, 3, -1, -2, 1 << 40, 257, -1 << 63} {
		want := slots == 1 || slots == 2
		for _, r := range []api.Report{{Slots: slots}, {Slots: slots, Findings: []api.Finding{}}, {Slots: slots, Segments: -5, Frames: 9, Keys: 1 << 63}} {
			if audit.Clean(r) != want {
				t.Errorf("17.10: %v: %v", r, !want)
			}
			for _, l := range [][]api.Finding{some, {of(api.ErrTree, 1), at(api.ErrCheck, 0, 0)}, make([]api.Finding, 100)} {
				r.Findings = l
				if audit.Clean(r) {
					t.Errorf("17.10: %v is clean", r)
				}
			}
		}
	}
	r := api.Report{Slots: 2, Findings: make([]api.Finding, 0, 4)}
	audit.Clean(r)
	if r.Findings[:4][3] != (api.Finding{}) {
		t.Error("0.4: what is handed in is changed")
	}
}
