package catalog

import (
	"witness/annals"
	"witness/api"
	"witness/blobs"
	"witness/disk"
	"witness/pages"
	"witness/segment"
	"witness/skip"
)

// Format makes a disk one that has the empty map as version 0.
func Format(d *disk.Disk, span, window int) api.Errno {
	switch {
	case !pages.SpanFits(span):
		return api.ErrSpan
	case d == nil || segment.Count(d.Sectors(), span) < 2:
		return api.ErrSize
	case !pages.WindowFits(window):
		return api.ErrWindow
	}
	seq, errno := wipe(d)
	if errno != api.OK {
		return errno
	}
	c, errno := blank(d, span, seq)
	if errno != api.OK {
		return errno
	}
	first, errno := c.first(window)
	if errno != api.OK {
		return errno
	}
	return c.commit(first)
}

// wipe makes both slots zeros, the one that holds last: so no older superblock ever holds. It answers the Seq that held; 0, if none did.
func wipe(d *disk.Disk) (uint64, api.Errno) {
	held, errno := pages.Holding(d)
	switch {
	case errno != api.OK && errno != api.ErrMagic:
		return 0, errno
	case held.Seq == api.MaxNumber:
		return 0, api.ErrLast
	}
	for _, slot := range []int{pages.SlotOf(held.Seq + 1), pages.SlotOf(held.Seq)} {
		if errno := writeSlot(d, slot, make([]byte, d.Size())); errno != api.OK {
			return 0, errno
		}
	}
	return held.Seq, api.OK
}

// blank is a catalog without any state over a disk of which nothing is used, whose next Seq is one more than seq.
func blank(d *disk.Disk, span int, seq uint64) (*Catalog, api.Errno) {
	log, errno := segment.Open(d, span, 0, make([]api.Mark, segment.Count(d.Sectors(), span)))
	if errno != api.OK {
		return nil, errno
	}
	b, errno := blobs.Open(log)
	if errno != api.OK {
		return nil, errno
	}
	super := api.Super{Seq: seq, Size: d.Size(), Sectors: d.Sectors(), Span: span}
	return &Catalog{disk: d, blobs: b, super: super}, api.OK
}

// first is the state that has the empty map as version 0.
func (c *Catalog) first(window int) (api.Page, api.Errno) {
	tree, errno := skip.Empty(c.blobs)
	if errno != api.OK {
		return api.Page{}, errno
	}
	annal, errno := annals.Append(c.blobs, api.Annal{}, api.Leaf{Label: tree.Label})
	if errno != api.OK {
		return api.Page{}, errno
	}
	return api.Page{Window: window, Versions: []api.Version{{Tree: tree}}, Annal: annal}, api.OK
}
