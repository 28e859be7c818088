// Package pages: which superblock holds, the page that it names, and in which order one goes through what a page needs, for those who read a disk as its last commit left it: see DOC.md, 'Commit and recovery', and chapter 14.
package pages

import (
	"cmp"
	"slices"

	"witness/api"
	"witness/codec"
	"witness/disk"
)

const numSlots = 2 // sectors for superblocks, the disk's first ones

// SlotOf is the sector of the superblock with that Seq: not that of the one ahead of it, which holds until the new one is whole.
func SlotOf(seq uint64) int { return int(seq % numSlots) }

// Whole is the superblocks of the slots that are whole, the one that holds first; no disk has none.
func Whole(d *disk.Disk) ([]api.Super, api.Errno) {
	if d == nil {
		return nil, api.OK
	}
	var whole []api.Super
	for slot := range numSlots {
		s, errno := wholeIn(d, slot)
		switch errno {
		case api.OK:
			whole = append(whole, s)
		case api.ErrPower:
			return nil, errno
		}
	}
	slices.SortFunc(whole, func(a, b api.Super) int { return cmp.Compare(b.Seq, a.Seq) })
	return whole, api.OK
}

// Holding is the superblock that holds; ErrMagic, if none does.
func Holding(d *disk.Disk) (api.Super, api.Errno) {
	whole, errno := Whole(d)
	switch {
	case errno != api.OK:
		return api.Super{}, errno
	case len(whole) == 0:
		return api.Super{}, api.ErrMagic
	}
	return whole[0], api.OK
}

// wholeIn is the superblock of a slot; ErrMagic, if it is not whole.
func wholeIn(d *disk.Disk, slot int) (api.Super, api.Errno) {
	b, errno := d.Read(slot)
	if errno == api.ErrPower {
		return api.Super{}, errno
	}
	s, wrong := codec.ReadSuper(b)
	if errno != api.OK || wrong != api.OK || s.Size != d.Size() || s.Sectors != d.Sectors() || SlotOf(s.Seq) != slot {
		return api.Super{}, api.ErrMagic
	}
	return s, api.OK
}
