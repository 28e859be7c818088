package segment

import (
	"witness/api"
	"witness/codec"
)

// Next begins a new segment.
func (l *Log) Next() api.Errno {
	if l.state.Serial == api.MaxNumber {
		return api.ErrLast
	}
	seg, errno := l.vacant()
	if errno != api.OK {
		return errno
	}
	serial := l.state.Serial + 1
	if errno := l.lay(seg, 0, codec.Header(serial)); errno != api.OK {
		return errno
	}
	l.state.Serial = serial
	l.state.Marks[seg] = api.Mark{Serial: serial, Used: headerBytes}
	l.state.Current = seg
	return api.OK
}

// vacant is the first segment that may be given out, if more of them than the reserve are left.
func (l *Log) vacant() (int, api.Errno) {
	first, count := noSegment, 0
	for seg, mark := range l.state.Marks {
		if used(mark) || l.state.Held[seg] {
			continue
		}
		if count == 0 {
			first = seg
		}
		count++
	}
	if count <= l.reserve {
		return noSegment, api.ErrFull
	}
	return first, api.OK
}

// Fits tells whether a frame with so many bytes of body goes into the segment that is being filled.
func (l *Log) Fits(body int) bool {
	if l.state.Current == noSegment || body < 0 {
		return false
	}
	left := l.Size() - l.state.Marks[l.state.Current].Used
	return body <= left-frameBytes // not 13 + body: that may be above every number
}

// Append writes a frame behind the last one.
func (l *Log) Append(f api.Frame) (api.Place, api.Errno) {
	if f.Kind < 1 || f.Kind >= api.NumKinds {
		return api.Place{}, api.ErrKind
	}
	if len(f.Body) > l.Size()-headerBytes-frameBytes {
		return api.Place{}, api.ErrFull
	}
	if l.Fits(len(f.Body)) {
		return l.put(f)
	}
	serial, current := l.state.Serial, l.state.Current
	if errno := l.Next(); errno != api.OK {
		return api.Place{}, errno
	}
	place, errno := l.put(f)
	if errno != api.OK {
		l.state.Marks[l.state.Current] = api.Mark{}
		l.state.Serial, l.state.Current = serial, current
	}
	return place, errno
}

// put writes a frame that fits into the current segment.
func (l *Log) put(f api.Frame) (api.Place, api.Errno) {
	seg := l.state.Current
	mark := l.state.Marks[seg]
	b := codec.Frame(mark.Serial, mark.Used, f)
	if errno := l.lay(seg, mark.Used, b); errno != api.OK {
		return api.Place{}, errno
	}
	l.state.Marks[seg].Used += len(b)
	return api.Place{Seg: seg, At: mark.Used, Len: len(b)}, api.OK
}

// lay writes bytes behind the first at bytes of a segment, which stay as they are; behind the new ones are zeros up to the sector's end.
func (l *Log) lay(seg, at int, b []byte) api.Errno {
	size := l.disk.Size()
	for len(b) > 0 {
		front, errno := l.front(seg, at)
		if errno != api.OK {
			return errno
		}
		n := min(len(b), size-len(front))
		whole := append(front, b[:n]...)
		whole = append(whole, make([]byte, size-len(whole))...)
		if errno := l.disk.Write(l.sector(seg, at), whole); errno != api.OK {
			return errno
		}
		at += n
		b = b[n:]
	}
	return api.OK
}

// front is what lies ahead of a byte in its sector.
func (l *Log) front(seg, at int) ([]byte, api.Errno) {
	n := at % l.disk.Size()
	if n == 0 {
		return nil, api.OK
	}
	b, errno := l.disk.Read(l.sector(seg, at))
	if errno != api.OK {
		return nil, errno
	}
	return b[:n:n], api.OK
}
