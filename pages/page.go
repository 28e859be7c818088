package pages

import (
	"slices"

	"witness/annals"
	"witness/api"
	"witness/codec"
	"witness/disk"
	"witness/segment"
)

const (
	headerBytes = 16 // of a segment
	frameBytes  = 13 // of a frame, beside its body
)

// Of is the page that a superblock names; ErrPage, if it is none that can be taken.
func Of(d *disk.Disk, s api.Super) (api.Page, api.Errno) {
	if !placeFits(s) {
		return api.Page{}, api.ErrPage
	}
	header, errno := bytesAt(d, s, 0, headerBytes)
	if errno != api.OK {
		return api.Page{}, errno
	}
	b, errno := bytesAt(d, s, s.Page.At, s.Page.Len)
	if errno != api.OK {
		return api.Page{}, errno
	}
	serial, wrong := codec.ReadHeader(header)
	if wrong != api.OK {
		return api.Page{}, api.ErrPage
	}
	p, ok := pageIn(b, serial, s.Page.At)
	if !ok || !pageFits(p, s, serial) {
		return api.Page{}, api.ErrPage
	}
	return p, api.OK
}

// placeFits tells whether a superblock names bytes of a segment of its disk in which a frame may lie.
func placeFits(s api.Super) bool {
	return SpanFits(s.Span) && segment.Count(s.Sectors, s.Span) >= 2 &&
		s.Page.Seg < segment.Count(s.Sectors, s.Span) &&
		s.Page.At >= headerBytes && s.Page.Len >= frameBytes && s.Page.At+s.Page.Len <= s.Span*s.Size
}

// bytesAt are so many bytes of the page's segment, from one of them on. They are read from the disk, because a log cannot be opened without the page.
func bytesAt(d *disk.Disk, s api.Super, at, length int) ([]byte, api.Errno) {
	first := numSlots + s.Page.Seg*s.Span
	var b []byte
	for sector := at / s.Size; sector*s.Size < at+length; sector++ {
		piece, errno := d.Read(first + sector)
		if errno != api.OK {
			return nil, errno
		}
		b = append(b, piece...)
	}
	return b[at%s.Size:][:length], api.OK
}

// pageIn is the page whose frame is just these bytes.
func pageIn(b []byte, serial uint64, at int) (api.Page, bool) {
	frame, n, errno := codec.ReadFrame(serial, at, b)
	if errno != api.OK || n != len(b) || frame.Kind != api.KindPage {
		return api.Page{}, false
	}
	p, errno := codec.ReadPage(frame.Body)
	return p, errno == api.OK
}

// pageFits tells whether a page can stand where the superblock says, in a segment with that serial, and what it says fits together.
func pageFits(p api.Page, s api.Super, serial uint64) bool {
	return len(p.Marks) == segment.Count(s.Sectors, s.Span) &&
		p.Marks[s.Page.Seg] == api.Mark{Serial: serial, Used: s.Page.At} &&
		WindowFits(p.Window) && len(p.Versions) <= p.Window &&
		versionsFit(p) && annalsFit(p)
}

// SpanFits tells whether segments may have so many sectors.
func SpanFits(span int) bool { return span >= api.MinSpan && span <= api.MaxSpan }

// WindowFits tells whether so many versions may be kept.
func WindowFits(window int) bool { return window >= 1 && window <= api.MaxWindow }

// versionsFit tells whether there is a version, and their numbers rise one by one up to the last.
func versionsFit(p api.Page) bool {
	if len(p.Versions) == 0 {
		return false
	}
	number := p.Versions[0].Number
	for _, v := range p.Versions[1:] {
		number++
		if v.Number != number {
			return false
		}
	}
	return number == p.Last
}

// annalsFit tells whether the annals fit and have a leaf for each version that ever was.
func annalsFit(p api.Page) bool {
	_, errno := annals.Consistency(nil, p.Annal, 0) // a path from no leaves needs no blob, and tells whether the peaks fit
	return errno == api.OK && p.Annal.Size == p.Last+1
}

// Log is the log as the page left it: behind the page's own frame.
func Log(d *disk.Disk, s api.Super, p api.Page) (*segment.Log, api.Errno) {
	marks := slices.Clone(p.Marks)
	marks[s.Page.Seg].Used = s.Page.At + s.Page.Len
	return segment.Open(d, s.Span, p.Serial, marks)
}
