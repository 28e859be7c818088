package catalog

import (
	"witness/api"
	"witness/codec"
	"witness/disk"
	"witness/pages"
)

// writeSuper makes a superblock the one that holds. What it names is durable ahead of it.
func writeSuper(d *disk.Disk, s api.Super) api.Errno {
	if errno := d.Flush(); errno != api.OK {
		return errno
	}
	return writeSlot(d, pages.SlotOf(s.Seq), codec.Super(s, d.Size()))
}

// writeSlot gives a slot durable bytes.
func writeSlot(d *disk.Disk, slot int, b []byte) api.Errno {
	if errno := d.Write(slot, b); errno != api.OK {
		return errno
	}
	return d.Flush()
}
