package disk_test

import (
	"bytes"
	"fmt"
	"sync"
	"testing"

	"witness/api"
	"witness/disk"
)

// together runs so many workers at one time and waits for all of them.
func together(workers int, work func(worker int)) {
	var all sync.WaitGroup
	start := make(chan struct{})
	for w := range workers {
		all.Add(1)
		go func() {
			defer all.Done()
			<-start
			work(w)
		}()
	}
	close(start)
	all.Wait()
}

func TestManyOnSectorsOfTheirOwn(t *testing.T) {
	d := fresh(t, 16)
	together(16, func(w int) {
		for i := range 200 {
			answers(t, "3.10", d.Write(w, fill(byte(i))), api.OK)
			reads(t, "3.10", d, w, fill(byte(i)))
			if i%50 == 0 {
				answers(t, "3.10", d.Flush(), api.OK)
			}
		}
	})
	tells(t, "3.10", d, false, 0, api.Stats{Reads: 3200, Writes: 3200, Flushes: 64})
	answers(t, "3.10", d.Flush(), api.OK)
	shows(t, "3.10", d, bytes.Repeat([]byte{199}, 16*size))
}

func TestManyOnOneFuse(t *testing.T) {
	for _, n := range []int{0, 1, 7, 300} {
		d := fresh(t, 4)
		d.Fuse(n)
		done := make([]int, 8)
		together(8, func(w int) {
			for i := 0; ; i++ {
				e := api.OK
				if (i+w)%5 == 4 {
					e = d.Flush()
				} else {
					e = d.Write(w%4, fill(byte(i)))
				}
				if e != api.OK {
					answers(t, "3.10", e, api.ErrPower)
					return
				}
				done[w]++
			}
		})
		sum := 0
		for _, k := range done {
			sum += k
		}
		if s := d.Stats(); sum != n || !d.Off() || s.Writes+s.Flushes != uint64(n) {
			t.Errorf("3.10: a fuse of %d let %d through, Stats %v, Off %v", n, sum, s, d.Off())
		}
	}
}

// TestManyReadOneWrites: what one writes into two sectors, one behind the other, the others see whole and in order.
func TestManyReadOneWrites(t *testing.T) {
	const rounds = 250
	d := fresh(t, 2)
	together(8, func(w int) {
		if w == 0 {
			for i := 1; i <= rounds; i++ {
				d.Write(0, fill(byte(i)))
				d.Write(1, fill(byte(i)))
				if i%7 == 0 {
					d.Flush()
				}
			}
			return
		}
		last := byte(0)
		for last < rounds {
			c := d.Copy()
			zero, _ := c.Read(0)
			one, _ := c.Read(1)
			if !bytes.Equal(zero, fill(zero[0])) || !bytes.Equal(one, fill(one[0])) || zero[0]-one[0] > 1 || one[0] < last {
				t.Errorf("3.10: a Copy has %d and %d, the last one had %d", zero[0], one[0], last)
				return
			}
			if s := c.Stats(); s.Writes != uint64(zero[0])+uint64(one[0]) || s.Flushes != uint64(one[0])/7 && s.Flushes != uint64(one[0]-1)/7 {
				t.Errorf("3.10: a Copy has %d and %d, and Stats %v", zero[0], one[0], s)
			}
			one, _ = d.Read(1)
			zero, _ = d.Read(0)
			if !bytes.Equal(one, fill(one[0])) || !bytes.Equal(zero, fill(zero[0])) || zero[0] < one[0] || one[0] < last {
				t.Errorf("3.10: Read(1) = %d, then Read(0) = %d, the last was %d", one[0], zero[0], last)
				return
			}
			last = one[0]
		}
	})
}

func TestManyRot(t *testing.T) {
	d := fresh(t, 2)
	d.Write(1, fill(0))
	together(8, func(w int) {
		for range 501 {
			answers(t, "3.10", d.Rot(1, 9, 1<<w), api.OK)
		}
	})
	want := fill(0)
	want[9] = 255
	shows(t, "3.10: Rot", d, fill(0), want)
	reads(t, "3.10: Rot", d, 1, want)
}

func TestManyCrash(t *testing.T) {
	d := fresh(t, 1)
	together(8, func(w int) {
		for i := range 200 {
			switch w {
			case 0:
				d.Crash(api.Crash{Keep: []bool{true, true, true}, Torn: -1})
			case 1:
				d.Crash(none)
			case 2:
				d.Fuse(i % 3)
			case 3, 4:
				d.Write(0, fill(byte(i)))
			case 5:
				d.Flush()
			default:
				if got, e := d.Read(0); e == api.OK && !bytes.Equal(got, fill(got[0])) || e != api.OK && e != api.ErrPower {
					t.Errorf("3.10: Read = %q, %d", got, e)
				}
				if image := d.Image(); !bytes.Equal(image, fill(image[0])) {
					t.Errorf("3.10: Image = %q", image)
				}
			}
		}
	})
	if d.Era() != 400 {
		t.Errorf("3.10: Era = %d behind 400 crashes", d.Era())
	}
}

// call is one call with what it is answered, on a disk and on the model.
type call struct {
	name string
	disk func(d *disk.Disk) string
	word func(m *model) string
}

func answered(b []byte, e api.Errno) string { return fmt.Sprintf("%x %d", b, e) }

func (n *noise) call() call {
	sector, b, fuse, at := n.below(2), n.bytes(), n.below(4)-1, n.below(size)
	crash := n.crash(2)
	switch n.below(12) {
	case 0, 1, 2:
		return call{"Write", func(d *disk.Disk) string { return fmt.Sprint(d.Write(sector, b)) }, func(m *model) string { return fmt.Sprint(m.write(sector, b)) }}
	case 3:
		return call{"Read", func(d *disk.Disk) string { return answered(d.Read(sector)) }, func(m *model) string { return answered(m.read(sector)) }}
	case 4:
		return call{"Flush", func(d *disk.Disk) string { return fmt.Sprint(d.Flush()) }, func(m *model) string { return fmt.Sprint(m.flush()) }}
	case 5:
		return call{"Fuse", func(d *disk.Disk) string { d.Fuse(fuse); return "" }, func(m *model) string { m.light(fuse); return "" }}
	case 6:
		return call{"Crash", func(d *disk.Disk) string { d.Crash(crash); return "" }, func(m *model) string { m.crash(crash); return "" }}
	case 7:
		return call{"Image", func(d *disk.Disk) string { return answered(d.Image(), 0) }, func(m *model) string { return answered(bytes.Join(m.durable, nil), 0) }}
	case 8:
		return call{"Pending", func(d *disk.Disk) string { return fmt.Sprint(d.Pending()) }, func(m *model) string {
			sectors := []int{}
			for _, p := range m.cache {
				sectors = append(sectors, p.sector)
			}
			return fmt.Sprint(sectors)
		}}
	case 9:
		return call{"Rot", func(d *disk.Disk) string { return fmt.Sprint(d.Rot(sector, at, 3)) }, func(m *model) string { return fmt.Sprint(m.rot(sector, at, 3)) }}
	case 10:
		return call{"Stats", func(d *disk.Disk) string { return fmt.Sprint(d.Stats()) }, func(m *model) string { return fmt.Sprint(m.stats) }}
	}
	return call{"Off and Copy", func(d *disk.Disk) string { c := d.Copy(); return fmt.Sprint(c.Off(), c.Era(), c.Stats(), c.Image()) }, func(m *model) string {
		return fmt.Sprint(m.off, m.era, m.stats, bytes.Join(m.durable, nil))
	}}
}

// explained tells whether the answers are those of some order in which each worker's calls stand as it made them, and which ends with such an image.
func explained(m *model, calls [][]call, got [][]string, image []byte) bool {
	left := false
	for w := range calls {
		if len(calls[w]) == 0 {
			continue
		}
		left = true
		next := m.copied()
		if calls[w][0].word(next) != got[w][0] {
			continue
		}
		restCalls, restGot := append([][]call{}, calls...), append([][]string{}, got...)
		restCalls[w], restGot[w] = calls[w][1:], got[w][1:]
		if explained(next, restCalls, restGot, image) {
			return true
		}
	}
	return !left && bytes.Equal(bytes.Join(m.durable, nil), image)
}

func TestManyAsIfOneByOne(t *testing.T) {
	for seed := range 400 {
		n := &noise{uint64(seed)}
		calls := make([][]call, 3)
		got := make([][]string, 3)
		for w := range calls {
			for range 4 {
				calls[w] = append(calls[w], n.call())
			}
		}
		d := fresh(t, 2)
		together(len(calls), func(w int) {
			for _, c := range calls[w] {
				got[w] = append(got[w], c.disk(d))
			}
		})
		if !explained(newModel(2), calls, got, d.Image()) {
			for w := range calls {
				for i, c := range calls[w] {
					t.Logf("worker %d: %s = %.80s", w, c.name, got[w][i])
				}
			}
			t.Fatalf("3.10: seed %d: no order of the calls has these answers", seed)
		}
	}
}
