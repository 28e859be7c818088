package segment

import (
	"iter"

	"witness/api"
	"witness/codec"
)

// Read is the frame at a place.
func (l *Log) Read(p api.Place) (api.Frame, api.Errno) {
	mark, ok := l.inUse(p.Seg)
	if !ok || p.At < headerBytes || p.Len < frameBytes || p.Len > mark.Used-p.At { // not At + Len: that may be above every number
		return api.Frame{}, api.ErrPlace
	}
	b, errno := l.bytes(p.Seg, p.At, p.At+p.Len)
	if errno != api.OK {
		return api.Frame{}, errno
	}
	frame, n, errno := codec.ReadFrame(mark.Serial, p.At, b)
	if errno != api.OK {
		return api.Frame{}, errno
	}
	if n < p.Len {
		return api.Frame{}, api.ErrPlace
	}
	return frame, api.OK
}

// bytes are those of a segment from one byte up to another, read sector by sector from the lowest on.
func (l *Log) bytes(seg, from, to int) ([]byte, api.Errno) {
	b := make([]byte, 0, to-from)
	for len(b) < to-from {
		piece, errno := l.piece(seg, from+len(b), to)
		if errno != api.OK {
			return nil, errno
		}
		b = append(b, piece...)
	}
	return b, api.OK
}

// piece is what one sector has of these bytes: those from the first of them on.
func (l *Log) piece(seg, from, to int) ([]byte, api.Errno) {
	sector, errno := l.disk.Read(l.sector(seg, from))
	if errno != api.OK {
		return nil, errno
	}
	begin := from % len(sector)
	end := min(len(sector), begin+to-from)
	return sector[begin:end:end], api.OK
}

// walk goes through the frames of a segment's used bytes.
type walk struct {
	seg   int
	mark  api.Mark
	take  func(at int) (api.Frame, int, api.Errno) // the frame that begins at a byte, and how many bytes it has
	errno api.Errno                                // with which take has ended it
}

// frames gives the frames from behind the header on, as long as take has them.
func (w *walk) frames(yield func(api.Place, api.Frame) bool) {
through:
	for at := headerBytes; at < w.mark.Used; {
		frame, n, errno := w.take(at)
		switch {
		case errno != api.OK:
			w.errno = errno
			break through
		case !yield(api.Place{Seg: w.seg, At: at, Len: n}, frame):
			break through
		}
		at += n
	}
}

// Frames gives the whole frames of a segment's used part, in their order, up to the first one that is not.
func (l *Log) Frames(seg int) iter.Seq2[api.Place, api.Frame] {
	return func(yield func(api.Place, api.Frame) bool) {
		mark, ok := l.inUse(seg)
		if !ok {
			return
		}
		w := walk{seg: seg, mark: mark, take: func(at int) (api.Frame, int, api.Errno) {
			return l.frameAt(seg, mark, at)
		}}
		w.frames(yield)
	}
}

// frameAt reads the frame that begins at a byte, and no sector behind it: what the disk has there is another step's.
func (l *Log) frameAt(seg int, mark api.Mark, at int) (api.Frame, int, api.Errno) {
	b, errno := l.piece(seg, at, mark.Used)
	for errno == api.OK {
		frame, n, wrong := codec.ReadFrame(mark.Serial, at, b)
		if wrong != api.ErrShort || at+len(b) == mark.Used {
			return frame, n, wrong
		}
		var more []byte
		more, errno = l.piece(seg, at+len(b), mark.Used)
		b = append(b, more...)
	}
	return api.Frame{}, 0, errno
}

// Check tells how many bytes of a segment's used part are a header and whole frames, and what is wrong behind them.
func (l *Log) Check(seg int) (int, api.Errno) {
	if !l.has(seg) {
		return 0, api.ErrSeg
	}
	mark, ok := l.inUse(seg)
	if !ok {
		return 0, api.OK
	}
	b, errno := l.bytes(seg, 0, mark.Used)
	if errno != api.OK {
		return 0, errno
	}
	serial, errno := codec.ReadHeader(b)
	if errno != api.OK {
		return 0, errno
	}
	if serial != mark.Serial {
		return 0, api.ErrMarks
	}
	w := walk{seg: seg, mark: mark, take: func(at int) (api.Frame, int, api.Errno) {
		return codec.ReadFrame(mark.Serial, at, b[at:])
	}}
	whole := headerBytes
	for place := range w.frames {
		whole = place.At + place.Len
	}
	return whole, w.errno
}
