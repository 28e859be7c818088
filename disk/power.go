package disk

import "witness/api"

// Fuse lets the power go when so many further writes and flushes have been done (below 0: never).
func (d *Disk) Fuse(n int) {
	d.lock.Lock()
	defer d.lock.Unlock()
	if !d.off {
		d.fuse = max(n, noFuse)
	}
}

// Off tells whether the power is gone.
func (d *Disk) Off() bool {
	d.lock.RLock()
	defer d.lock.RUnlock()
	return d.off
}

// burn takes one from the fuse for a write or a flush; the first that finds nothing left takes the power with it.
func (d *Disk) burn() api.Errno {
	if d.fuse == 0 {
		d.off = true
	}
	if d.off {
		return api.ErrPower
	}
	if d.fuse != noFuse {
		d.fuse--
	}
	return api.OK
}

// Crash takes the power away, and gives it back: of what was not flushed the crash says what is kept.
func (d *Disk) Crash(c api.Crash) {
	d.lock.Lock()
	defer d.lock.Unlock()
	for sector, writes := range d.cache {
		for _, w := range writes {
			d.apply(sector, w.bytes[:d.kept(c, w.number)])
		}
	}
	d.empty()
	d.fuse = noFuse
	d.off = false
	d.era++
}

// kept is how many bytes of the write with that number outlast the crash.
func (d *Disk) kept(c api.Crash, number int) int {
	switch {
	case number == c.Torn:
		return min(max(c.At, 0), d.size)
	case number < len(c.Keep) && c.Keep[number]:
		return d.size
	}
	return 0
}

// apply makes these bytes the first of the sector's durable ones.
func (d *Disk) apply(sector int, b []byte) {
	if len(b) > 0 { // what is lost needs no memory
		copy(d.own(sector), b)
	}
}

// own is the memory of the sector's durable bytes, made if there is none yet.
func (d *Disk) own(sector int) []byte {
	if d.durable[sector] == nil {
		d.durable[sector] = make([]byte, d.size)
	}
	return d.durable[sector]
}

// Rot turns bits of a byte, in what is durable and in what is read.
func (d *Disk) Rot(sector, at int, mask byte) api.Errno {
	if !d.has(sector) || at < 0 || at >= d.size {
		return api.ErrSector
	}
	d.lock.Lock()
	defer d.lock.Unlock()
	d.own(sector)[at] ^= mask
	for _, w := range d.cache[sector] {
		w.bytes[at] ^= mask
	}
	return api.OK
}
