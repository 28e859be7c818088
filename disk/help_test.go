package disk_test

import (
	"bytes"
	"slices"
	"testing"

	"witness/api"
	"witness/disk"
)

const size = 128

// none is a crash that keeps nothing and tears nothing.
var none = api.Crash{Torn: -1}

func fill(c byte) []byte { return bytes.Repeat([]byte{c}, size) }

// torn is so many bytes of the one, and of the other behind them.
func torn(one, other byte, n int) []byte { return append(fill(one)[:n:n], fill(other)[n:]...) }

func fresh(t *testing.T, sectors int) *disk.Disk {
	t.Helper()
	d, e := disk.New(sectors, size)
	if d == nil || e != api.OK {
		t.Fatalf("3.1: New(%d, %d) = %d", sectors, size, e)
	}
	return d
}

func reads(t *testing.T, what string, d *disk.Disk, sector int, want []byte) {
	t.Helper()
	if got, e := d.Read(sector); e != api.OK || !bytes.Equal(got, want) {
		t.Errorf("%s: Read(%d) = %.140q, %d, want %.140q", what, sector, got, e, want)
	}
}

// refuses holds a Read against an error, with which there are no bytes.
func refuses(t *testing.T, what string, d *disk.Disk, sector int, want api.Errno) {
	t.Helper()
	if got, e := d.Read(sector); e != want || got != nil {
		t.Errorf("%s: Read(%d) = %.20q, %d, want nil, %d", what, sector, got, e, want)
	}
}

func answers(t *testing.T, what string, got, want api.Errno) {
	t.Helper()
	if got != want {
		t.Errorf("%s: %d, want %d", what, got, want)
	}
}

func waits(t *testing.T, what string, d *disk.Disk, want ...int) {
	t.Helper()
	if got := d.Pending(); !slices.Equal(got, want) {
		t.Errorf("%s: Pending = %v, want %v", what, got, want)
	}
}

func shows(t *testing.T, what string, d *disk.Disk, want ...[]byte) {
	t.Helper()
	if got := d.Image(); !bytes.Equal(got, bytes.Join(want, nil)) {
		t.Errorf("%s: Image = %.400q, want %.400q", what, got, bytes.Join(want, nil))
	}
}

func tells(t *testing.T, what string, d *disk.Disk, off bool, era int, s api.Stats) {
	t.Helper()
	if d.Off() != off || d.Era() != era || d.Stats() != s {
		t.Errorf("%s: Off %v, Era %d, Stats %v, want %v, %d, %v", what, d.Off(), d.Era(), d.Stats(), off, era, s)
	}
}

// noise gives numbers that look like chance and are the same in every run.
type noise struct{ x uint64 }

func (n *noise) below(m int) int {
	n.x = n.x*6364136223846793005 + 1442695040888963407
	return int(n.x >> 16 % uint64(m))
}

func (n *noise) bytes() []byte {
	b := make([]byte, size)
	for i := range b {
		b[i] = byte(n.below(256))
	}
	return b
}

func (n *noise) crash(writes int) api.Crash {
	c := api.Crash{Torn: n.below(writes+4) - 2, At: n.below(size+20) - 10}
	for range n.below(writes + 3) {
		c.Keep = append(c.Keep, n.below(2) == 0)
	}
	return c
}

// model is a disk as the chapter's words say it, with nothing to make it quick.
type model struct {
	durable [][]byte
	cache   []put
	fuse    int // below 0: none
	off     bool
	era     int
	stats   api.Stats
}

type put struct {
	sector int
	bytes  []byte
}

func newModel(sectors int) *model {
	m := &model{fuse: -1}
	for range sectors {
		m.durable = append(m.durable, fill(0))
	}
	return m
}

func (m *model) has(sector int) bool { return sector >= 0 && sector < len(m.durable) }

func (m *model) read(sector int) ([]byte, api.Errno) {
	if !m.has(sector) {
		return nil, api.ErrSector
	}
	if m.off {
		return nil, api.ErrPower
	}
	m.stats.Reads++
	for _, p := range slices.Backward(m.cache) {
		if p.sector == sector {
			return p.bytes, api.OK
		}
	}
	return m.durable[sector], api.OK
}

func (m *model) goes() bool {
	if m.off || m.fuse == 0 {
		m.off = true
		return false
	}
	if m.fuse > 0 {
		m.fuse--
	}
	return true
}

func (m *model) write(sector int, b []byte) api.Errno {
	if !m.has(sector) || len(b) != size {
		return api.ErrSector
	}
	if !m.goes() {
		return api.ErrPower
	}
	m.cache = append(m.cache, put{sector, bytes.Clone(b)})
	m.stats.Writes++
	return api.OK
}

func (m *model) flush() api.Errno {
	if !m.goes() {
		return api.ErrPower
	}
	for _, p := range m.cache {
		copy(m.durable[p.sector], p.bytes)
	}
	m.cache = nil
	m.stats.Flushes++
	return api.OK
}

func (m *model) light(n int) {
	if !m.off {
		m.fuse = n
	}
}

func (m *model) crash(c api.Crash) {
	for i, p := range m.cache {
		switch {
		case i == c.Torn && c.At < 0:
		case i == c.Torn && c.At > size:
			copy(m.durable[p.sector], p.bytes)
		case i == c.Torn:
			copy(m.durable[p.sector], p.bytes[:c.At])
		case i < len(c.Keep) && c.Keep[i]:
			copy(m.durable[p.sector], p.bytes)
		}
	}
	m.cache, m.fuse, m.off = nil, -1, false
	m.era++
}

func (m *model) rot(sector, at int, mask byte) api.Errno {
	if !m.has(sector) || at < 0 || at >= size {
		return api.ErrSector
	}
	m.durable[sector][at] ^= mask
	for _, p := range m.cache {
		if p.sector == sector {
			p.bytes[at] ^= mask
		}
	}
	return api.OK
}

func (m *model) copied() *model {
	c := *m
	c.durable, c.cache = nil, nil
	for _, b := range m.durable {
		c.durable = append(c.durable, bytes.Clone(b))
	}
	for _, p := range m.cache {
		c.cache = append(c.cache, put{p.sector, bytes.Clone(p.bytes)})
	}
	return &c
}

// pair is a disk and the model that it is held against.
type pair struct {
	d *disk.Disk
	m *model
}

// holds compares all that can be asked without changing anything but the Stats.
func (p pair) holds(t *testing.T, what string) {
	t.Helper()
	var pending []int
	for _, w := range p.m.cache {
		pending = append(pending, w.sector)
	}
	waits(t, what+": 3.7", p.d, pending...)
	shows(t, what+": 3.7", p.d, p.m.durable...)
	tells(t, what+": 3.9", p.d, p.m.off, p.m.era, p.m.stats)
	for sector := -1; sector <= len(p.m.durable); sector++ {
		want, e := p.m.read(sector)
		if got, errno := p.d.Read(sector); errno != e || !bytes.Equal(got, want) {
			t.Errorf("%s: 3.3: Read(%d) = %.140q, %d, want %.140q, %d", what, sector, got, errno, want, e)
		}
	}
	if p.d.Sectors() != len(p.m.durable) || p.d.Size() != size {
		t.Errorf("%s: 3.2: %d sectors of %d bytes", what, p.d.Sectors(), p.d.Size())
	}
}

// step does one thing to both, and answers its name.
func (p pair) step(t *testing.T, n *noise) string {
	t.Helper()
	sector := n.below(len(p.m.durable)+1) - n.below(12)/11
	switch n.below(12) {
	case 0, 1, 2, 3, 4:
		b := n.bytes()
		if n.below(10) == 0 {
			b = b[:n.below(size)]
		}
		answers(t, "3.4: Write", p.d.Write(sector, b), p.m.write(sector, b))
		return "Write"
	case 5:
		answers(t, "3.4: Flush", p.d.Flush(), p.m.flush())
		return "Flush"
	case 6, 7:
		fuse := n.below(8) - 2
		p.d.Fuse(fuse)
		p.m.light(fuse)
		return "Fuse"
	case 8, 9:
		c := n.crash(len(p.m.cache))
		p.d.Crash(c)
		p.m.crash(c)
		return "Crash"
	}
	at, mask := n.below(size+2)-1, byte(n.below(256))
	answers(t, "3.8: Rot", p.d.Rot(sector, at, mask), p.m.rot(sector, at, mask))
	return "Rot"
}
