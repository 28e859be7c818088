package catalog

import (
	"witness/api"
	"witness/codec"
	"witness/disk"
)

const numSlots = 2 // sectors for superblocks, the disk's first ones

// slotOf is the sector of the superblock with that Seq: not that of the one ahead of it, which holds until the new one is whole.
func slotOf(seq uint64) int { return int(seq % numSlots) }

// holding is the superblock that holds; ErrMagic, if none does.
func holding(d *disk.Disk) (api.Super, api.Errno) {
	held, found := api.Super{}, api.ErrMagic
	for slot := range numSlots {
		s, errno := wholeIn(d, slot)
		switch {
		case errno == api.ErrPower:
			return api.Super{}, errno
		case errno == api.OK && (found != api.OK || s.Seq > held.Seq):
			held, found = s, api.OK
		}
	}
	return held, found
}

// wholeIn is the superblock of a slot; ErrMagic, if it is not whole.
func wholeIn(d *disk.Disk, slot int) (api.Super, api.Errno) {
	b, errno := d.Read(slot)
	if errno == api.ErrPower {
		return api.Super{}, errno
	}
	s, wrong := codec.ReadSuper(b)
	if errno != api.OK || wrong != api.OK || s.Size != d.Size() || s.Sectors != d.Sectors() || slotOf(s.Seq) != slot {
		return api.Super{}, api.ErrMagic
	}
	return s, api.OK
}

// writeSuper makes a superblock the one that holds. What it names is durable ahead of it.
func writeSuper(d *disk.Disk, s api.Super) api.Errno {
	if errno := d.Flush(); errno != api.OK {
		return errno
	}
	return writeSlot(d, slotOf(s.Seq), codec.Super(s, d.Size()))
}

// writeSlot gives a slot durable bytes.
func writeSlot(d *disk.Disk, slot int, b []byte) api.Errno {
	if errno := d.Write(slot, b); errno != api.OK {
		return errno
	}
	return d.Flush()
}
